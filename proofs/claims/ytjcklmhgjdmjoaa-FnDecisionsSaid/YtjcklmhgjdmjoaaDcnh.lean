/- laws.markDecisionS, markDecision, heldDecisionS, heldDecision; the first k of a list. (by gen_dcn.py) -/
import Derived.Test.YtjcklmhgjdmjoaaDcnf
namespace Go.Proofs.Ytjcklmhgjdmjoaa
open Go.ChangeShapes Go.WideShapes Go.ChangeAt Go.RowKit
set_option linter.unusedVariables false

/-- How many codes in all. -/
def Dcn.tot : List Dcn → Nat
  | [] => 0
  | e :: es => e.cs.length + Dcn.tot es
/-! ### the first k of a list -/
structure DcnPt (w : World) (lo : Nat) (hs : List Dch) (es : List Dcn) (k : Nat) : Prop where
  len : hs.length = k
  one : ∀ (j : Nat) h e, hs[j]? = some h → es[j]? = some e → h.y = e.y ∧ Ost w lo h.A h.n h.c e.cs
  sep : hs.Pairwise Dch.sep
theorem DcnPt.nil (w : World) (lo : Nat) (es : List Dcn) : DcnPt w lo [] es 0 := ⟨rfl, fun j h e h1 => by simp at h1, List.Pairwise.nil⟩
section
variable {w w' : World} {lo k : Nat} {hs : List Dch} {es : List Dcn}
theorem DcnPt.below (h : DcnPt w lo hs es k) (hb : Below w.heap.size w w') : DcnPt w' lo hs es k :=
  ⟨h.len, fun j x e h1 h2 => ⟨(h.one j x e h1 h2).1, (h.one j x e h1 h2).2.below hb⟩, h.sep⟩
theorem DcnPt.tou {lo' hi' : Nat} (h : DcnPt w lo hs es k) (ht : Tou lo' hi' w w') (hd : hi' ≤ lo) : DcnPt w' lo hs es k :=
  ⟨h.len, fun j x e h1 h2 => ⟨(h.one j x e h1 h2).1, (h.one j x e h1 h2).2.tou ht (fun g hg => by have := (h.one j x e h1 h2).2.lo g hg; omega)⟩, h.sep⟩
theorem DcnPt.grown {g : Nat} (h : DcnPt w lo hs es k) (hg : w.grownBy w' (some g)) (hn : ∀ x ∈ hs, x.ob ≠ some g) : DcnPt w' lo hs es k :=
  ⟨h.len, fun j x e h1 h2 => ⟨(h.one j x e h1 h2).1, World.ownsRow.kept (h.one j x e h1 h2).2 hg (.inr (hn x (List.mem_of_getElem? h1)))⟩, h.sep⟩
theorem DcnPt.ob_lt (h : DcnPt w lo hs es k) (hk : k ≤ es.length) {x : Dch} (hx : x ∈ hs) {g : Nat} (hg : x.ob = some g) : lo ≤ g ∧ g < w.heap.size := by
  obtain ⟨i, hi'⟩ := List.getElem?_of_mem hx
  have hl : i < es.length := by have := (List.getElem?_eq_some_iff.1 hi').1; have := h.len; omega
  exact (h.one i x _ hi' (List.getElem?_eq_getElem hl)).2.lt g hg
theorem DcnPt.snoc (h : DcnPt w lo hs es k) (hb : Below w.heap.size w w') {e : Dcn} (he : es[k]? = some e) {A : Option Addr} {n c : Nat} (ho : Ost w' w.heap.size A n c e.cs) (hlo : lo ≤ w.heap.size) :
    DcnPt w' lo (hs ++ [⟨e.y, A, n, c⟩]) es (k + 1) := by
  have hk : k < es.length := (List.getElem?_eq_some_iff.1 he).1
  refine ⟨by simp [h.len], fun j x q h1 h2 => ?_, ?_⟩
  · by_cases hj : j < hs.length
    · rw [List.getElem?_append_left hj] at h1
      exact (h.below hb).one j x q h1 h2
    · rw [List.getElem?_append_right (by omega)] at h1
      have hj2 := (List.getElem?_eq_some_iff.1 h1).1
      simp at hj2
      have : j = k := by have := h.len; omega
      subst this
      rw [he] at h2
      cases h2
      rw [h.len, Nat.sub_self] at h1
      simp at h1
      subst h1
      exact ⟨rfl, ho.mono hlo⟩
  · rw [List.pairwise_append]
    refine ⟨h.sep, by simp, fun a ha b hb' g hg => ?_⟩
    simp at hb'
    subst hb'
    have h1 := (h.ob_lt (by omega) ha hg).2
    intro e2
    have h2 := ho.lo g e2
    omega
theorem DcnPt.done {lo' hi n c : Nat} {A : Option Addr} (h : DcnPt w lo hs es es.length) (hr : w.ownsRow lo' 31 2 (.slice A n c) n (hs.flatMap Dch.cells)) (hlo : lo' ≤ lo) (hhi : w.heap.size ≤ hi)
    (hA : ∀ x ∈ hs, ∀ g, x.ob = some g → (Value.slice A n c).ownBlock ≠ some g) : DcnO w lo' hi A n c es :=
  ⟨hs, hr, h.len, fun j x e h1 h2 => ⟨(h.one j x e h1 h2).1, (h.one j x e h1 h2).2.mono hlo⟩, fun g hg => Nat.lt_of_lt_of_le (hr.lt g hg).2 hhi,
    fun x hx g hg => ⟨Nat.lt_of_lt_of_le (h.ob_lt (Nat.le_refl _) hx hg).2 hhi, hA x hx g hg⟩, h.sep⟩
end
theorem set_dcn {ys : List Value} {k : Nat} (hk : k * 2 + 1 < ys.length) {v0 v1 : Value} {P : List Value} (h : ys.take (k * 2) = P) :
    ((ys.set (k * 2) v0).set (k * 2 + 1) v1).take ((k + 1) * 2) = P ++ [v0, v1] := by
  apply List.ext_getElem?
  intro j
  subst h
  rw [List.getElem?_take, List.getElem?_append, List.length_take, Nat.min_eq_left (by omega)]
  by_cases h1 : j < k * 2
  · rw [if_pos (by omega), if_pos h1, List.getElem?_take, if_pos h1]
    rw [List.getElem?_set_ne (by omega), List.getElem?_set_ne (by omega)]
  · rw [if_neg h1]
    by_cases h2 : j < (k + 1) * 2
    · rw [if_pos h2]
      have : j = k * 2 ∨ j = k * 2 + 1 := by omega
      rcases this with rfl | rfl
      · rw [List.getElem?_set_ne (by omega), List.getElem?_set_self (by (try simp only [List.length_set]); omega), Nat.sub_self]; rfl
      · rw [List.getElem?_set_self (by (try simp only [List.length_set]); omega), show k * 2 + 1 - k * 2 = 1 by omega]; rfl
    · rw [if_neg h2, List.getElem?_eq_none (by simp; omega)]
theorem stored_dcn {w : World} {base g n c : Nat} {e : TypeId} {xs : List Value} (h : w.ownsRow base e 2 (.slice (some ⟨g, 0, none⟩) n c) n xs) (j : Nat) (v0 v1 : Value) :
    ((w.setCell ⟨g, j, none⟩ v0).setCell ⟨g, j + 1, none⟩ v1).ownsRow base e 2 (.slice (some ⟨g, 0, none⟩) n c) n ((xs.set j v0).set (j + 1) v1) ∧
    w.grownBy ((w.setCell ⟨g, j, none⟩ v0).setCell ⟨g, j + 1, none⟩ v1) (some g) := by
  have h1 := h.stored j v0
  have h2 := h1.1.stored (j + 1) v1
  exact ⟨h2.1, h1.2.trans h2.2⟩
def Dcn.mks (k : Nat) : List Dcn → List Dcn
  | [] => []
  | e :: es => ⟨(k : Int), marksS (k + 1) e.cs.length⟩ :: Dcn.mks (k + 1 + e.cs.length) es
def Dcn.fin (k : Nat) (es : List Dcn) : Nat := k + es.length + Dcn.tot es
theorem Dcn.mks_len : ∀ (es : List Dcn) (k : Nat), (Dcn.mks k es).length = es.length
  | [], k => rfl
  | e :: es, k => by simp [Dcn.mks, Dcn.mks_len es]
theorem Dcn.tot_app : ∀ (ps qs : List Dcn), Dcn.tot (ps ++ qs) = Dcn.tot ps + Dcn.tot qs
  | [], qs => by simp [Dcn.tot]
  | e :: ps, qs => by simp [Dcn.tot, Dcn.tot_app ps qs]; omega
theorem Dcn.mks_app : ∀ (ps qs : List Dcn) (k : Nat), Dcn.mks k (ps ++ qs) = Dcn.mks k ps ++ Dcn.mks (Dcn.fin k ps) qs
  | [], qs, k => by simp [Dcn.mks, Dcn.fin, Dcn.tot]
  | e :: ps, qs, k => by
    simp only [List.cons_append, Dcn.mks, Dcn.mks_app ps qs]
    congr 3
    simp [Dcn.fin, Dcn.tot]; omega
theorem Dcn.fin_take {es : List Dcn} {j : Nat} {e : Dcn} (h : es[j]? = some e) (k : Nat) : Dcn.fin k (es.take (j + 1)) = Dcn.fin k (es.take j) + 1 + e.cs.length := by
  have hj := (List.getElem?_eq_some_iff.1 h).1
  rw [snoc_of h, Dcn.fin, Dcn.fin, Dcn.tot_app, List.length_append]
  simp [Dcn.tot]; omega
theorem Dcn.tot_take (es : List Dcn) (j : Nat) : Dcn.tot (es.take j) ≤ Dcn.tot es := by
  have := Dcn.tot_app (es.take j) (es.drop j)
  rw [List.take_append_drop] at this
  omega
theorem Dcn.fin_le (k : Nat) (es : List Dcn) (j : Nat) : Dcn.fin k (es.take j) ≤ Dcn.fin k es := by
  have h1 := Dcn.tot_take es j
  have h2 : (es.take j).length ≤ es.length := by simp; omega
  unfold Dcn.fin; omega
/-- One more is marked. -/
theorem Dcn.step {es : List Dcn} {j : Nat} {e : Dcn} (h : es[j]? = some e) (k : Nat) :
    (Dcn.mks k (es.take j) ++ es.drop j)[j]? = some e ∧
    (Dcn.mks k (es.take j) ++ es.drop j).set j ⟨(Dcn.fin k (es.take j) : Nat), marksS (Dcn.fin k (es.take j) + 1) e.cs.length⟩ = Dcn.mks k (es.take (j + 1)) ++ es.drop (j + 1) := by
  have hj := (List.getElem?_eq_some_iff.1 h).1
  have hl : (Dcn.mks k (es.take j)).length = j := by rw [Dcn.mks_len, List.length_take]; omega
  constructor
  · rw [List.getElem?_append_right (by omega), hl, Nat.sub_self, drop_of h]; rfl
  · rw [List.set_append_right _ _ (by omega), hl, Nat.sub_self, drop_of h, snoc_of h, Dcn.mks_app]
    simp [Dcn.mks]
theorem flat_set_yD : ∀ (hs : List Dch) (j : Nat) (x : Dch) (K : Int), hs[j]? = some x → (hs.set j { x with y := K }).flatMap Dch.cells = (hs.flatMap Dch.cells).set (j * 2) (.int .i64 K)
  | [], j, x, K, h => by simp at h
  | q :: hs, 0, x, K, h => by simp at h; subst h; simp [Dch.cells]
  | q :: hs, j + 1, x, K, h => by
    have ih := flat_set_yD hs j x K (by simpa using h)
    simp only [List.set_cons_succ, List.flatMap_cons, ih]
    rw [show (j + 1) * 2 = j * 2 + 1 + 1 by omega]
    simp [Dch.cells]
section
variable {w w' : World} {lo hi : Nat} {A : Option Addr} {g n c : Nat} {hs : List Dch} {es : List Dcn}
theorem DcnOw.ne (h : DcnOw w lo hi A n c hs es) {i j : Nat} {x y : Dch} (hx : hs[i]? = some x) (hy : hs[j]? = some y) (hij : i ≠ j) : ∀ b, x.ob = some b → y.ob ≠ some b := by
  obtain ⟨hi1, rfl⟩ := List.getElem?_eq_some_iff.1 hx
  obtain ⟨hj1, rfl⟩ := List.getElem?_eq_some_iff.1 hy
  have hp := List.pairwise_iff_getElem.1 h.sep
  intro b h1 h2
  rcases Nat.lt_or_ge i j with hlt | hge
  · exact hp i j hi1 hj1 hlt b h1 h2
  · exact hp j i hj1 hi1 (by omega) b h2 h1
/-- A year is written; then an inner row. -/
theorem DcnOw.put (h : DcnOw w lo hi (some ⟨g, 0, none⟩) n c hs es) {j : Nat} {x : Dch} {e : Dcn} (hx : hs[j]? = some x) (he : es[j]? = some e) (K : Int) :
    Ost (w.setCell ⟨g, j * 2, none⟩ (.int .i64 K)) lo x.A x.n x.c e.cs ∧ Tou lo hi w (w.setCell ⟨g, j * 2, none⟩ (.int .i64 K)) ∧
    ∀ w' cs', Ost w' lo x.A x.n x.c cs' → (w.setCell ⟨g, j * 2, none⟩ (.int .i64 K)).grownBy w' x.ob →
      DcnOw w' lo hi (some ⟨g, 0, none⟩) n c (hs.set j { x with y := K }) (es.set j ⟨K, cs'⟩) ∧ Tou lo hi w w' := by
  have S := h.row.stored (j * 2) (.int .i64 K)
  have hg := h.hiA g rfl
  have hgl := (h.row.lt g rfl).1
  have hxm := List.mem_of_getElem? hx
  have T1 : Tou lo hi w (w.setCell ⟨g, j * 2, none⟩ (.int .i64 K)) := Tou.of_grown S.2 (fun q hq => by injection hq; omega)
  have keep : ∀ (i : Nat) (y : Dch) (d : Dcn), hs[i]? = some y → es[i]? = some d → Ost (w.setCell ⟨g, j * 2, none⟩ (.int .i64 K)) lo y.A y.n y.c d.cs := fun i y d h1 h2 =>
    World.ownsRow.kept (h.one i y d h1 h2).2 S.2 (.inr fun e1 => (h.his y (List.mem_of_getElem? h1) g e1).2 rfl)
  refine ⟨keep j x e hx he, T1, fun w' cs' ho hgr => ⟨⟨?_, by simp [h.len], fun i y d h1 h2 => ?_, h.hiA, fun y hy q hq => ?_, ?_⟩, T1.trans (Tou.of_grown hgr fun q hq => ?_)⟩⟩
  · rw [flat_set_yD hs j x K hx]
    exact World.ownsRow.kept S.1 hgr (.inr fun e1 => (h.his x hxm g e1.symm).2 rfl)
  · rw [List.getElem?_set] at h1 h2
    by_cases hij : j = i
    · subst hij
      rw [if_pos rfl, if_pos (List.getElem?_eq_some_iff.1 hx).1] at h1
      rw [if_pos rfl, if_pos (List.getElem?_eq_some_iff.1 he).1] at h2
      cases h1; cases h2
      exact ⟨rfl, ho⟩
    · rw [if_neg hij] at h1 h2
      refine ⟨(h.one i y d h1 h2).1, World.ownsRow.kept (keep i y d h1 h2) hgr ?_⟩
      cases hb : y.ob with
      | none => exact .inl hb
      | some b => exact .inr fun e1 => h.ne h1 hx (fun e2 => hij e2.symm) b hb (by rw [← e1]; exact hb)
  · rcases List.mem_or_eq_of_mem_set hy with h1 | rfl
    · exact h.his y h1 q hq
    · exact h.his x hxm q hq
  · have hm : (hs.set j { x with y := K }).map Dch.ob = hs.map Dch.ob := by
      apply List.ext_getElem?
      intro i
      rw [List.getElem?_map, List.getElem?_map, List.getElem?_set]
      by_cases hij : j = i
      · subst hij
        rw [if_pos rfl, if_pos (List.getElem?_eq_some_iff.1 hx).1, hx]; rfl
      · rw [if_neg hij]
    have h1 : (hs.map Dch.ob).Pairwise (fun a b => ∀ q, a = some q → b ≠ some q) := List.pairwise_map.2 h.sep
    rw [← hm] at h1
    exact (List.pairwise_map (f := Dch.ob)).1 h1
  · have := h.lo_mem hxm hq
    exact ⟨this.1, this.2.1⟩
end
def MarkedDcn (w : World) (lo hi : Nat) (A : Option Addr) (n c : Nat) (k : Nat) (es : List Dcn) (e : Ending) (w' : World) : Prop :=
  e = .returned (.int .i64 ((Dcn.fin k es : Nat) : Int)) ∧ DcnO w' lo hi A n c (Dcn.mks k es) ∧ Tou lo hi w w'
set_option maxRecDepth 100000 in
set_option maxHeartbeats 2000000 in
theorem markDecisionS_l (A : Option Addr) (n c : Nat) (k0 : Nat) (es : List Dcn) (lo hi : Nat) (w : World) (hx : DcnO w lo hi A n c es) (hn : n ≤ 1048576) (hcs : ∀ e ∈ es, e.cs.length ≤ 1048576) (h0 : 0 < k0) (h1 : Dcn.fin k0 es ≤ 1000000000) :
    Calls Try.prog 60 #[.slice A n c, .int .i64 k0] w (MarkedDcn w lo hi A n c k0 es) := by
  by_cases hz : n = 0
  · have HO : Hid (DcnO w lo hi A n c (Dcn.mks k0 es) ∧ Dcn.fin k0 es = k0) := Lib.hid (by
      have h := hx.len; subst hz
      have : es = [] := List.eq_nil_of_length_eq_zero h
      subst this; exact ⟨hx, rfl⟩)
    subst hz
    go_enter Try.func60, Try.ntmps60
    go_wp2_with fail
    go_loop [1, 5] (fun k i => k = .int .i64 k0 ∧ i = .int .i64 0) (fun _ _ => 0)
    case atStart => exact ⟨rfl, rfl⟩
    case round =>
      obtain ⟨rfl, rfl⟩ := hrel
      go_wp2_with fail
      go_ret
      exact ⟨by rw [HO.out.2] <;> rfl, HO.out.1, Tou.refl _ _ _⟩
  · obtain ⟨hs0, hx⟩ := hx
    obtain ⟨g, hA⟩ : ∃ g, A = some ⟨g, 0, none⟩ := by
      rcases hx.row.2 with ⟨_, h⟩ | ⟨g, _, _, h, _⟩
      · exact absurd h hz
      · injection h with h; exact ⟨g, h⟩
    subst hA
    have hen : es.length = n := by rw [← hx.len]; exact hx.lenN
    go_enter Try.func60, Try.ntmps60
    go_wp2_with fail
    go_loopw [1, 5] (fun k i wr => ∃ (j K : Nat) (hs : List Dch), j ≤ n ∧ i = .int .i64 j ∧ k = .int .i64 (K : Int) ∧ Hid (K = Dcn.fin k0 (es.take j)) ∧
      Hid (DcnOw wr lo hi (some ⟨g, 0, none⟩) n c hs (Dcn.mks k0 (es.take j) ++ es.drop j)) ∧ Hid (Tou lo hi w wr)) (fun _ i _ => n - (intOf i).toNat)
    case atStart => exact ⟨0, k0, hs0, Nat.zero_le _, rfl, rfl, Lib.hid (by simp [Dcn.fin, Dcn.tot]), Lib.hid (by simpa [Dcn.mks] using hx), Lib.hid (Tou.refl _ _ _)⟩
    case round =>
      obtain ⟨j, K, hs, hj, rfl, rfl, hK, hO, hT⟩ := hrel
      clear hx
      by_cases hlt : j < n
      · obtain ⟨e, he⟩ : ∃ e, es[j]? = some e := ⟨_, List.getElem?_eq_getElem (by omega)⟩
        obtain ⟨s1, s2⟩ := Dcn.step he k0
        rw [← hK.out] at s2
        have hKb : Hid (K + 1 + e.cs.length ≤ 1000000000 ∧ k0 ≤ K) := Lib.hid (by
          have a1 := Dcn.fin_take he k0
          have a2 := Dcn.fin_le k0 es (j + 1)
          have a3 := hK.out
          have a4 : k0 ≤ Dcn.fin k0 (es.take j) := by unfold Dcn.fin; omega
          omega)
        have hKn : Hid (K + 1 + e.cs.length = Dcn.fin k0 (es.take (j + 1))) := Lib.hid (by rw [Dcn.fin_take he k0, hK.out])
        obtain ⟨x, hxj⟩ : ∃ x, hs[j]? = some x := ⟨_, List.getElem?_eq_getElem (by have := hO.out.lenN; omega)⟩
        obtain ⟨pa, pb, pc⟩ := hO.out.put hxj s1 (K : Int)
        have xn : x.n = e.cs.length := pa.len.symm
        have hyl : j * 2 + 1 < (hs.flatMap Dch.cells).length := by have := hO.out.row.1; omega
        obtain ⟨o0, k0'⟩ := own_at hO.out.row (j * 2) (by omega)
        have f0 := hO.out.row.frozenAt (j * 2)
        have k1 : wr.cell? ⟨g, j * 2 + 1, none⟩ = some (.slice x.A x.n x.c) := by
          have q := hO.out.row.cellAt (j * 2 + 1) (by omega)
          rw [q, flat_at Dch.cells 2 (fun _ => rfl) hs j 1 x hxj (by omega)]; rfl
        have hcb : e.cs.length ≤ 1048576 := hcs e (List.mem_of_getElem? he)
        have HM := Lib.hid (markStringS_l x.A x.n x.c (K + 1) e.cs lo (wr.setCell ⟨g, j * 2, none⟩ (.int .i64 (K : Int))) pa (by rw [xn]; exact hcb) (by omega) (by have := hKb.out; omega))
        have HP := Lib.hid pc
        have XN := Lib.hid xn
        have S2 := Lib.hid s2
        have hK1 : K ≤ 1000000000 := by have := hKb.out; omega
        clear pa pb pc hO hK s1 s2 hxj he xn hcb
        go_wp2_with (go_at_call 43; refine HM.out.mono ?_; rintro e' w1 ⟨rfl, o1, g1⟩; have Q := Lib.hid (HP.out w1 _ o1 g1); clear o1 g1)
        go_roundw
        case rel =>
          refine ⟨j + 1, K + 1 + e.cs.length, _, by omega, by go_num, ?_, hKn, Lib.hid (by rw [← S2.out, ← XN.out]; exact Q.out.1), Lib.hid (hT.out.trans Q.out.2)⟩
          rw [XN.out]
          exact congrArg (Value.int .i64) (by omega)
        case measure => simp [intOf]; omega
      · obtain rfl : j = n := by omega
        have HT : Hid (K = Dcn.fin k0 es ∧ DcnOw wr lo hi (some ⟨g, 0, none⟩) j c hs (Dcn.mks k0 es)) := Lib.hid (by
          have a1 := hK.out
          have a2 := hO.out
          rw [List.take_of_length_le (by omega)] at a1 a2
          rw [List.drop_eq_nil_of_le (by omega), List.append_nil] at a2
          exact ⟨a1, a2⟩)
        clear hO hK
        go_wp2_with fail
        go_ret
        exact ⟨by rw [HT.out.1] <;> rfl, ⟨hs, HT.out.2⟩, hT.out⟩
theorem Dcn.mks_at {es : List Dcn} {j : Nat} {e : Dcn} (h : es[j]? = some e) (k : Nat) :
    (Dcn.mks k es)[j]? = some ⟨(Dcn.fin k (es.take j) : Nat), marksS (Dcn.fin k (es.take j) + 1) e.cs.length⟩ := by
  have hj := (List.getElem?_eq_some_iff.1 h).1
  have hl : (Dcn.mks k (es.take j)).length = j := by rw [Dcn.mks_len, List.length_take]; omega
  have e1 : es = es.take j ++ e :: es.drop (j + 1) := by rw [← drop_of h, List.take_append_drop]
  have e2 : Dcn.mks k es = Dcn.mks k (es.take j) ++ Dcn.mks (Dcn.fin k (es.take j)) (e :: es.drop (j + 1)) := by rw [← Dcn.mks_app, ← e1]
  rw [e2, List.getElem?_append_right (by omega), hl, Nat.sub_self]
  rfl
set_option maxRecDepth 100000 in
set_option maxHeartbeats 2000000 in
theorem heldDecisionS_l (A : Option Addr) (n c : Nat) (k0 : Nat) (es : List Dcn) (w : World) (hx : DcnR w A (Dcn.mks k0 es)) (hen : es.length = n) (hn : n ≤ 1048576) (hcs : ∀ e ∈ es, e.cs.length ≤ 1048576) (h0 : 0 < k0) (h1 : Dcn.fin k0 es ≤ 1000000000) :
    Calls Try.prog 61 #[.slice A n c, .int .i64 k0] w (Gives w (.int .i64 ((Dcn.fin k0 es : Nat) : Int))) := by
  go_enter Try.func61, Try.ntmps61
  go_wp2_with fail
  go_loopw [1, 5] (fun k i wr => ∃ j K : Nat, j ≤ n ∧ i = .int .i64 j ∧ k = .int .i64 (K : Int) ∧ Hid (K = Dcn.fin k0 (es.take j)) ∧ Below w.heap.size w wr) (fun _ i _ => n - (intOf i).toNat)
  case atStart => exact ⟨0, k0, Nat.zero_le _, rfl, rfl, Lib.hid (by simp [Dcn.fin, Dcn.tot]), Below.refl _ _⟩
  case round =>
    obtain ⟨j, K, hj, rfl, rfl, hK, hb⟩ := hrel
    by_cases hlt : j < n
    · obtain ⟨e, he⟩ : ∃ e, es[j]? = some e := ⟨_, List.getElem?_eq_getElem (by omega)⟩
      obtain ⟨b, off, r, a, cp, rfl, hl, hr, c0, c1, hcl⟩ := (hx.below hb).at (k := j) (by rw [Dcn.mks_len]; omega)
      have hr2 : r = ⟨(K : Int), marksS (K + 1) e.cs.length⟩ := by
        have q := hr.out
        rw [Dcn.mks_at he k0, ← hK.out] at q
        exact (Option.some.inj q).symm
      have hKb : Hid (K + 1 + e.cs.length ≤ 1000000000 ∧ k0 ≤ K) := Lib.hid (by
        have a1 := Dcn.fin_take he k0
        have a2 := Dcn.fin_le k0 es (j + 1)
        have a3 := hK.out
        have a4 : k0 ≤ Dcn.fin k0 (es.take j) := by unfold Dcn.fin; omega
        omega)
      have hKn : Hid (K + 1 + e.cs.length = Dcn.fin k0 (es.take (j + 1))) := Lib.hid (by rw [Dcn.fin_take he k0, hK.out])
      have hcb : e.cs.length ≤ 1048576 := hcs e (List.mem_of_getElem? he)
      subst hr2
      simp only [marksS_len] at c0 c1 hcl
      have HM := Lib.hid (heldStringS_l a e.cs.length cp (K + 1) wr hcl hcb (by omega) (by have := hKb.out; omega))
      have hK1 : K ≤ 1000000000 := by have := hKb.out; omega
      have hK2 : K + 1 + e.cs.length ≤ 1000000000 := by have := hKb.out; omega
      have d0 : ((K : Int) != (K : Int)) = false := by simp
      have hneg : ¬ ((K + 1 + e.cs.length : Nat) : Int) < 0 := by omega
      clear hx hr hcl hK he hcb
      go_wp2_with (go_at_call 44; refine HM.out.mono ?_; rintro e' w1 ⟨rfl, b1⟩)
      go_roundw
      case rel => exact ⟨j + 1, K + 1 + e.cs.length, by omega, by go_num, rfl, hKn, hb.trans (b1.mono hb.size)⟩
      case measure => simp [intOf]; omega
    · obtain rfl : j = n := by omega
      have HT : Hid (K = Dcn.fin k0 es) := Lib.hid (by
        have a1 := hK.out
        rwa [List.take_of_length_le (by omega)] at a1)
      clear hx hK
      go_wp2_with fail
      go_ret
      exact ⟨by rw [HT.out] <;> rfl, hb⟩
/-- One edition by value: the mark goes to its codes. -/
theorem markDecision_l (y : Int) (A : Option Addr) (n c : Nat) (k0 : Nat) (rs : List (List UInt8)) (base : Nat) (w : World) (hx : Ost w base A n c rs) (hn : n ≤ 1048576) (h0 : 0 < k0) (h1 : k0 ≤ 1000000000) :
    Calls Try.prog 53 #[.agg #[.int .i64 y, .slice A n c], .int .i64 k0] w
      (fun e w' => e = .returned (.int .i64 ((k0 + n : Nat) : Int)) ∧ Ost w' base A n c (marksS k0 n) ∧ w.grownBy w' (Value.slice A n c).ownBlock) := by
  have HM := Lib.hid (fun o => markStringS_l A n c k0 rs base (w.alloc o) (hx.below ((Below.refl _ _).alloc (Nat.le_refl _) o)) hn h0 h1)
  have HG := Lib.hid (fun (o : Obj) (w' : World) (h : (w.alloc o).grownBy w' (Value.slice A n c).ownBlock) => (World.grownBy_alloc w o (Value.slice A n c).ownBlock).trans h)
  clear hx
  go_enter Try.func53, Try.ntmps53
  go_wp2_with (go_at_call 43; refine (HM.out _).mono ?_; rintro e w1 ⟨rfl, o1, g1⟩; have O1 := Lib.hid o1; have G1 := Lib.hid (HG.out _ _ g1); clear o1 g1)
  go_ret
  exact ⟨rfl, O1.out, G1.out⟩
/-- One decision by value: its chain holds the marks. -/
theorem heldDecision_l (y : Int) (A : Option Addr) (n c : Nat) (k0 : Nat) (w : World) (hx : Sr w A (marksS k0 n)) (hn : n ≤ 1048576) (h0 : 0 < k0) (h1 : k0 ≤ 1000000000) :
    Calls Try.prog 54 #[.agg #[.int .i64 y, .slice A n c], .int .i64 k0] w (Gives w (.int .i64 ((k0 + n : Nat) : Int))) := by
  have HM := Lib.hid (fun o => heldStringS_l A n c k0 (w.alloc o) (hx.below ((Below.refl _ _).alloc (Nat.le_refl _) _)) hn h0 h1)
  have HB := Lib.hid (fun (o : Obj) => (Below.refl w.heap.size w).alloc (Nat.le_refl _) o)
  have hneg : decide (((k0 + n : Nat) : Int) < 0) = false := decide_eq_false (by omega)
  clear hx
  obtain ⟨K, hK⟩ : ∃ K, k0 + n = K := ⟨_, rfl⟩
  rw [hK] at HM hneg
  have hneg2 : ¬ ((K : Nat) : Int) < 0 := by omega
  rw [hK]
  go_enter Try.func54, Try.ntmps54
  go_wp2_with (go_at_call 44; refine (HM.out _).mono ?_; rintro e w1 ⟨rfl, b1⟩; have b2 := Lib.hid ((HB.out _).trans (b1.mono (HB.out _).size)))
  go_ret
  exact ⟨rfl, b2.out⟩
end Go.Proofs.Ytjcklmhgjdmjoaa
