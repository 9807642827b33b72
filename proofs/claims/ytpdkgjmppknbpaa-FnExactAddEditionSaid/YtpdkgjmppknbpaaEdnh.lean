/- laws.markEditionS, markEdition, heldEditionS: rows of rows are marked and still hold their marks. -/
import Derived.Test.YtpdkgjmppknbpaaEdng
namespace Go.Proofs.Ytpdkgjmppknbpaa
open Go.ChangeShapes Go.WideShapes Go.ChangeAt Go.RowKit
set_option linter.unusedVariables false

def Edn.mks (k : Nat) : List Edn → List Edn
  | [] => []
  | e :: es => ⟨(k : Int), Cls.marks (k + 1) e.cs.length⟩ :: Edn.mks (k + 1 + 7 * e.cs.length) es
def Edn.fin (k : Nat) (es : List Edn) : Nat := k + es.length + 7 * Edn.tot es
theorem Edn.mks_len : ∀ (es : List Edn) (k : Nat), (Edn.mks k es).length = es.length
  | [], k => rfl
  | e :: es, k => by simp [Edn.mks, Edn.mks_len es]
theorem Edn.tot_app : ∀ (ps qs : List Edn), Edn.tot (ps ++ qs) = Edn.tot ps + Edn.tot qs
  | [], qs => by simp [Edn.tot]
  | e :: ps, qs => by simp [Edn.tot, Edn.tot_app ps qs]; omega
theorem Edn.mks_app : ∀ (ps qs : List Edn) (k : Nat), Edn.mks k (ps ++ qs) = Edn.mks k ps ++ Edn.mks (Edn.fin k ps) qs
  | [], qs, k => by simp [Edn.mks, Edn.fin, Edn.tot]
  | e :: ps, qs, k => by
    simp only [List.cons_append, Edn.mks, Edn.mks_app ps qs]
    congr 3
    simp [Edn.fin, Edn.tot]; omega
theorem Edn.fin_take {es : List Edn} {j : Nat} {e : Edn} (h : es[j]? = some e) (k : Nat) : Edn.fin k (es.take (j + 1)) = Edn.fin k (es.take j) + 1 + 7 * e.cs.length := by
  have hj := (List.getElem?_eq_some_iff.1 h).1
  rw [snoc_of h, Edn.fin, Edn.fin, Edn.tot_app, List.length_append]
  simp [Edn.tot]; omega
theorem Edn.tot_take (es : List Edn) (j : Nat) : Edn.tot (es.take j) ≤ Edn.tot es := by
  have := Edn.tot_app (es.take j) (es.drop j)
  rw [List.take_append_drop] at this
  omega
theorem Edn.fin_le (k : Nat) (es : List Edn) (j : Nat) : Edn.fin k (es.take j) ≤ Edn.fin k es := by
  have h1 := Edn.tot_take es j
  have h2 : (es.take j).length ≤ es.length := by simp; omega
  unfold Edn.fin; omega
/-- One more is marked. -/
theorem Edn.step {es : List Edn} {j : Nat} {e : Edn} (h : es[j]? = some e) (k : Nat) :
    (Edn.mks k (es.take j) ++ es.drop j)[j]? = some e ∧
    (Edn.mks k (es.take j) ++ es.drop j).set j ⟨(Edn.fin k (es.take j) : Nat), Cls.marks (Edn.fin k (es.take j) + 1) e.cs.length⟩ = Edn.mks k (es.take (j + 1)) ++ es.drop (j + 1) := by
  have hj := (List.getElem?_eq_some_iff.1 h).1
  have hl : (Edn.mks k (es.take j)).length = j := by rw [Edn.mks_len, List.length_take]; omega
  constructor
  · rw [List.getElem?_append_right (by omega), hl, Nat.sub_self, drop_of h]; rfl
  · rw [List.set_append_right _ _ (by omega), hl, Nat.sub_self, drop_of h, snoc_of h, Edn.mks_app]
    simp [Edn.mks]
theorem flat_set_y : ∀ (hs : List Edh) (j : Nat) (x : Edh) (K : Int), hs[j]? = some x → (hs.set j { x with y := K }).flatMap Edh.cells = (hs.flatMap Edh.cells).set (j * 2) (.int .i64 K)
  | [], j, x, K, h => by simp at h
  | q :: hs, 0, x, K, h => by simp at h; subst h; simp [Edh.cells]
  | q :: hs, j + 1, x, K, h => by
    have ih := flat_set_y hs j x K (by simpa using h)
    simp only [List.set_cons_succ, List.flatMap_cons, ih]
    rw [show (j + 1) * 2 = j * 2 + 1 + 1 by omega]
    simp [Edh.cells]
section
variable {w w' : World} {lo hi : Nat} {A : Option Addr} {g n c : Nat} {hs : List Edh} {es : List Edn}
theorem EdnOw.ne (h : EdnOw w lo hi A n c hs es) {i j : Nat} {x y : Edh} (hx : hs[i]? = some x) (hy : hs[j]? = some y) (hij : i ≠ j) : ∀ b, x.ob = some b → y.ob ≠ some b := by
  obtain ⟨hi1, rfl⟩ := List.getElem?_eq_some_iff.1 hx
  obtain ⟨hj1, rfl⟩ := List.getElem?_eq_some_iff.1 hy
  have hp := List.pairwise_iff_getElem.1 h.sep
  intro b h1 h2
  rcases Nat.lt_or_ge i j with hlt | hge
  · exact hp i j hi1 hj1 hlt b h1 h2
  · exact hp j i hj1 hi1 (by omega) b h2 h1
/-- A year is written; then an inner row. -/
theorem EdnOw.put (h : EdnOw w lo hi (some ⟨g, 0, none⟩) n c hs es) {j : Nat} {x : Edh} {e : Edn} (hx : hs[j]? = some x) (he : es[j]? = some e) (K : Int) :
    ClsO (w.setCell ⟨g, j * 2, none⟩ (.int .i64 K)) lo x.A x.n x.c e.cs ∧ Tou lo hi w (w.setCell ⟨g, j * 2, none⟩ (.int .i64 K)) ∧
    ∀ w' cs', ClsO w' lo x.A x.n x.c cs' → (w.setCell ⟨g, j * 2, none⟩ (.int .i64 K)).grownBy w' x.ob →
      EdnOw w' lo hi (some ⟨g, 0, none⟩) n c (hs.set j { x with y := K }) (es.set j ⟨K, cs'⟩) ∧ Tou lo hi w w' := by
  have S := h.row.stored (j * 2) (.int .i64 K)
  have hg := h.hiA g rfl
  have hgl := (h.row.lt g rfl).1
  have hxm := List.mem_of_getElem? hx
  have T1 : Tou lo hi w (w.setCell ⟨g, j * 2, none⟩ (.int .i64 K)) := Tou.of_grown S.2 (fun q hq => by injection hq; omega)
  have keep : ∀ (i : Nat) (y : Edh) (d : Edn), hs[i]? = some y → es[i]? = some d → ClsO (w.setCell ⟨g, j * 2, none⟩ (.int .i64 K)) lo y.A y.n y.c d.cs := fun i y d h1 h2 =>
    World.ownsRow.kept (h.one i y d h1 h2).2 S.2 (.inr fun e1 => (h.his y (List.mem_of_getElem? h1) g e1).2 rfl)
  refine ⟨keep j x e hx he, T1, fun w' cs' ho hgr => ⟨⟨?_, by simp [h.len], fun i y d h1 h2 => ?_, h.hiA, fun y hy q hq => ?_, ?_⟩, T1.trans (Tou.of_grown hgr fun q hq => ?_)⟩⟩
  · rw [flat_set_y hs j x K hx]
    exact World.ownsRow.kept S.1 hgr (.inr fun e1 => (h.his x hxm g e1.symm).2 rfl)
  · rw [List.getElem?_set] at h1 h2
    by_cases hij : j = i
    · subst hij
      rw [if_pos rfl, if_pos (List.getElem?_eq_some_iff.1 hx).1] at h1
      rw [if_pos rfl, if_pos (List.getElem?_eq_some_iff.1 he).1] at h2
      cases h1; cases h2
      exact ⟨rfl, ho⟩
    · rw [if_neg hij] at h1 h2
      refine ⟨(h.one i y d h1 h2).1, World.ownsRow.kept (keep i y d h1 h2) hgr ?_⟩
      cases hb : y.ob with
      | none => exact .inl hb
      | some b => exact .inr fun e1 => h.ne h1 hx (fun e2 => hij e2.symm) b hb (by rw [← e1]; exact hb)
  · rcases List.mem_or_eq_of_mem_set hy with h1 | rfl
    · exact h.his y h1 q hq
    · exact h.his x hxm q hq
  · have hm : (hs.set j { x with y := K }).map Edh.ob = hs.map Edh.ob := by
      apply List.ext_getElem?
      intro i
      rw [List.getElem?_map, List.getElem?_map, List.getElem?_set]
      by_cases hij : j = i
      · subst hij
        rw [if_pos rfl, if_pos (List.getElem?_eq_some_iff.1 hx).1, hx]; rfl
      · rw [if_neg hij]
    have h1 : (hs.map Edh.ob).Pairwise (fun a b => ∀ q, a = some q → b ≠ some q) := List.pairwise_map.2 h.sep
    rw [← hm] at h1
    exact (List.pairwise_map (f := Edh.ob)).1 h1
  · have := h.lo_mem hxm hq
    exact ⟨this.1, this.2.1⟩
end
def MarkedEdn (w : World) (lo hi : Nat) (A : Option Addr) (n c : Nat) (k : Nat) (es : List Edn) (e : Ending) (w' : World) : Prop :=
  e = .returned (.int .i64 ((Edn.fin k es : Nat) : Int)) ∧ EdnO w' lo hi A n c (Edn.mks k es) ∧ Tou lo hi w w'
set_option maxRecDepth 100000 in
set_option maxHeartbeats 2000000 in
theorem markEditionS_l (A : Option Addr) (n c : Nat) (k0 : Nat) (es : List Edn) (lo hi : Nat) (w : World) (hx : EdnO w lo hi A n c es) (hn : n ≤ 1048576) (hcs : ∀ e ∈ es, e.cs.length ≤ 1048576) (h0 : 0 < k0) (h1 : Edn.fin k0 es ≤ 1000000000) :
    Calls Try.prog 24 #[.slice A n c, .int .i64 k0] w (MarkedEdn w lo hi A n c k0 es) := by
  by_cases hz : n = 0
  · have HO : Hid (EdnO w lo hi A n c (Edn.mks k0 es) ∧ Edn.fin k0 es = k0) := Lib.hid (by
      have h := hx.len; subst hz
      have : es = [] := List.eq_nil_of_length_eq_zero h
      subst this; exact ⟨hx, rfl⟩)
    subst hz
    go_enter Try.func24, Try.ntmps24
    go_wp2_with fail
    go_loop [1, 5] (fun k i => k = .int .i64 k0 ∧ i = .int .i64 0) (fun _ _ => 0)
    case atStart => exact ⟨rfl, rfl⟩
    case round =>
      obtain ⟨rfl, rfl⟩ := hrel
      go_wp2_with fail
      go_ret
      exact ⟨by rw [HO.out.2] <;> rfl, HO.out.1, Tou.refl _ _ _⟩
  · obtain ⟨hs0, hx⟩ := hx
    obtain ⟨g, hA⟩ : ∃ g, A = some ⟨g, 0, none⟩ := by
      rcases hx.row.2 with ⟨_, h⟩ | ⟨g, _, _, h, _⟩
      · exact absurd h hz
      · injection h with h; exact ⟨g, h⟩
    subst hA
    have hen : es.length = n := by rw [← hx.len]; exact hx.lenN
    go_enter Try.func24, Try.ntmps24
    go_wp2_with fail
    go_loopw [1, 5] (fun k i wr => ∃ (j K : Nat) (hs : List Edh), j ≤ n ∧ i = .int .i64 j ∧ k = .int .i64 (K : Int) ∧ Hid (K = Edn.fin k0 (es.take j)) ∧
      Hid (EdnOw wr lo hi (some ⟨g, 0, none⟩) n c hs (Edn.mks k0 (es.take j) ++ es.drop j)) ∧ Hid (Tou lo hi w wr)) (fun _ i _ => n - (intOf i).toNat)
    case atStart => exact ⟨0, k0, hs0, Nat.zero_le _, rfl, rfl, Lib.hid (by simp [Edn.fin, Edn.tot]), Lib.hid (by simpa [Edn.mks] using hx), Lib.hid (Tou.refl _ _ _)⟩
    case round =>
      obtain ⟨j, K, hs, hj, rfl, rfl, hK, hO, hT⟩ := hrel
      clear hx
      by_cases hlt : j < n
      · obtain ⟨e, he⟩ : ∃ e, es[j]? = some e := ⟨_, List.getElem?_eq_getElem (by omega)⟩
        obtain ⟨s1, s2⟩ := Edn.step he k0
        rw [← hK.out] at s2
        have hKb : Hid (K + 1 + 7 * e.cs.length ≤ 1000000000 ∧ k0 ≤ K) := Lib.hid (by
          have a1 := Edn.fin_take he k0
          have a2 := Edn.fin_le k0 es (j + 1)
          have a3 := hK.out
          have a4 : k0 ≤ Edn.fin k0 (es.take j) := by unfold Edn.fin; omega
          omega)
        have hKn : Hid (K + 1 + 7 * e.cs.length = Edn.fin k0 (es.take (j + 1))) := Lib.hid (by rw [Edn.fin_take he k0, hK.out])
        obtain ⟨x, hxj⟩ : ∃ x, hs[j]? = some x := ⟨_, List.getElem?_eq_getElem (by have := hO.out.lenN; omega)⟩
        obtain ⟨pa, pb, pc⟩ := hO.out.put hxj s1 (K : Int)
        have xn : x.n = e.cs.length := pa.len.symm
        have hyl : j * 2 + 1 < (hs.flatMap Edh.cells).length := by have := hO.out.row.1; omega
        obtain ⟨o0, k0'⟩ := own_at hO.out.row (j * 2) (by omega)
        have f0 := hO.out.row.frozenAt (j * 2)
        have k1 : wr.cell? ⟨g, j * 2 + 1, none⟩ = some (.slice x.A x.n x.c) := by
          have q := hO.out.row.cellAt (j * 2 + 1) (by omega)
          rw [q, flat_at Edh.cells 2 (fun _ => rfl) hs j 1 x hxj (by omega)]; rfl
        have hcb : e.cs.length ≤ 1048576 := hcs e (List.mem_of_getElem? he)
        have HM := Lib.hid (markClauseS_l x.A x.n x.c (K + 1) e.cs lo (wr.setCell ⟨g, j * 2, none⟩ (.int .i64 (K : Int))) pa (by rw [xn]; exact hcb) (by omega) (by have := hKb.out; omega))
        have HP := Lib.hid pc
        have XN := Lib.hid xn
        have S2 := Lib.hid s2
        have hK1 : K ≤ 1000000000 := by have := hKb.out; omega
        clear pa pb pc hO hK s1 s2 hxj he xn hcb
        go_wp2_with (go_at_call 37; refine HM.out.mono ?_; rintro e' w1 ⟨rfl, o1, g1⟩; have Q := Lib.hid (HP.out w1 _ o1 g1); clear o1 g1)
        go_roundw
        case rel =>
          refine ⟨j + 1, K + 1 + 7 * e.cs.length, _, by omega, by go_num, ?_, hKn, Lib.hid (by rw [← S2.out, ← XN.out]; exact Q.out.1), Lib.hid (hT.out.trans Q.out.2)⟩
          rw [XN.out]
          exact congrArg (Value.int .i64) (by omega)
        case measure => simp [intOf]; omega
      · obtain rfl : j = n := by omega
        have HT : Hid (K = Edn.fin k0 es ∧ EdnOw wr lo hi (some ⟨g, 0, none⟩) j c hs (Edn.mks k0 es)) := Lib.hid (by
          have a1 := hK.out
          have a2 := hO.out
          rw [List.take_of_length_le (by omega)] at a1 a2
          rw [List.drop_eq_nil_of_le (by omega), List.append_nil] at a2
          exact ⟨a1, a2⟩)
        clear hO hK
        go_wp2_with fail
        go_ret
        exact ⟨by rw [HT.out.1] <;> rfl, ⟨hs, HT.out.2⟩, hT.out⟩
theorem Edn.mks_at {es : List Edn} {j : Nat} {e : Edn} (h : es[j]? = some e) (k : Nat) :
    (Edn.mks k es)[j]? = some ⟨(Edn.fin k (es.take j) : Nat), Cls.marks (Edn.fin k (es.take j) + 1) e.cs.length⟩ := by
  have hj := (List.getElem?_eq_some_iff.1 h).1
  have hl : (Edn.mks k (es.take j)).length = j := by rw [Edn.mks_len, List.length_take]; omega
  have e1 : es = es.take j ++ e :: es.drop (j + 1) := by rw [← drop_of h, List.take_append_drop]
  have e2 : Edn.mks k es = Edn.mks k (es.take j) ++ Edn.mks (Edn.fin k (es.take j)) (e :: es.drop (j + 1)) := by rw [← Edn.mks_app, ← e1]
  rw [e2, List.getElem?_append_right (by omega), hl, Nat.sub_self]
  rfl
set_option maxRecDepth 100000 in
set_option maxHeartbeats 2000000 in
theorem heldEditionS_l (A : Option Addr) (n c : Nat) (k0 : Nat) (es : List Edn) (w : World) (hx : EdnR w A (Edn.mks k0 es)) (hen : es.length = n) (hn : n ≤ 1048576) (hcs : ∀ e ∈ es, e.cs.length ≤ 1048576) (h0 : 0 < k0) (h1 : Edn.fin k0 es ≤ 1000000000) :
    Calls Try.prog 26 #[.slice A n c, .int .i64 k0] w (Gives w (.int .i64 ((Edn.fin k0 es : Nat) : Int))) := by
  go_enter Try.func26, Try.ntmps26
  go_wp2_with fail
  go_loopw [1, 5] (fun k i wr => ∃ j K : Nat, j ≤ n ∧ i = .int .i64 j ∧ k = .int .i64 (K : Int) ∧ Hid (K = Edn.fin k0 (es.take j)) ∧ Below w.heap.size w wr) (fun _ i _ => n - (intOf i).toNat)
  case atStart => exact ⟨0, k0, Nat.zero_le _, rfl, rfl, Lib.hid (by simp [Edn.fin, Edn.tot]), Below.refl _ _⟩
  case round =>
    obtain ⟨j, K, hj, rfl, rfl, hK, hb⟩ := hrel
    by_cases hlt : j < n
    · obtain ⟨e, he⟩ : ∃ e, es[j]? = some e := ⟨_, List.getElem?_eq_getElem (by omega)⟩
      obtain ⟨b, off, r, a, cp, rfl, hl, hr, c0, c1, hcl⟩ := (hx.below hb).at (k := j) (by rw [Edn.mks_len]; omega)
      have hr2 : r = ⟨(K : Int), Cls.marks (K + 1) e.cs.length⟩ := by
        have q := hr.out
        rw [Edn.mks_at he k0, ← hK.out] at q
        exact (Option.some.inj q).symm
      have hKb : Hid (K + 1 + 7 * e.cs.length ≤ 1000000000 ∧ k0 ≤ K) := Lib.hid (by
        have a1 := Edn.fin_take he k0
        have a2 := Edn.fin_le k0 es (j + 1)
        have a3 := hK.out
        have a4 : k0 ≤ Edn.fin k0 (es.take j) := by unfold Edn.fin; omega
        omega)
      have hKn : Hid (K + 1 + 7 * e.cs.length = Edn.fin k0 (es.take (j + 1))) := Lib.hid (by rw [Edn.fin_take he k0, hK.out])
      have hcb : e.cs.length ≤ 1048576 := hcs e (List.mem_of_getElem? he)
      subst hr2
      simp only [Cls.marks_len] at c0 c1 hcl
      have HM := Lib.hid (heldClauseS_l a e.cs.length cp (K + 1) wr hcl hcb (by omega) (by have := hKb.out; omega))
      have hK1 : K ≤ 1000000000 := by have := hKb.out; omega
      have hK2 : K + 1 + 7 * e.cs.length ≤ 1000000000 := by have := hKb.out; omega
      have d0 : ((K : Int) != (K : Int)) = false := by simp
      have hneg : ¬ ((K + 1 + 7 * e.cs.length : Nat) : Int) < 0 := by omega
      clear hx hr hcl hK he hcb
      go_wp2_with (go_at_call 60; refine HM.out.mono ?_; rintro e' w1 ⟨rfl, b1⟩)
      go_roundw
      case rel => exact ⟨j + 1, K + 1 + 7 * e.cs.length, by omega, by go_num, rfl, hKn, hb.trans (b1.mono hb.size)⟩
      case measure => simp [intOf]; omega
    · obtain rfl : j = n := by omega
      have HT : Hid (K = Edn.fin k0 es) := Lib.hid (by
        have a1 := hK.out
        rwa [List.take_of_length_le (by omega)] at a1)
      clear hx hK
      go_wp2_with fail
      go_ret
      exact ⟨by rw [HT.out] <;> rfl, hb⟩
/-- One edition by value: the mark goes to its clauses. -/
theorem markEdition_l (y : Int) (A : Option Addr) (n c : Nat) (k0 : Nat) (rs : List Cls) (base : Nat) (w : World) (hx : ClsO w base A n c rs) (hn : n ≤ 1048576) (h0 : 0 < k0) (h1 : k0 ≤ 1000000000) :
    Calls Try.prog 25 #[.agg #[.int .i64 y, .slice A n c], .int .i64 k0] w
      (fun e w' => e = .returned (.int .i64 ((k0 + 7 * n : Nat) : Int)) ∧ ClsO w' base A n c (Cls.marks k0 n) ∧ w.grownBy w' (Value.slice A n c).ownBlock) := by
  have HM := Lib.hid (fun o => markClauseS_l A n c k0 rs base (w.alloc o) (hx.below ((Below.refl _ _).alloc (Nat.le_refl _) o)) hn h0 h1)
  have HG := Lib.hid (fun (o : Obj) (w' : World) (h : (w.alloc o).grownBy w' (Value.slice A n c).ownBlock) => (World.grownBy_alloc w o (Value.slice A n c).ownBlock).trans h)
  clear hx
  go_enter Try.func25, Try.ntmps25
  go_wp2_with (go_at_call 37; refine (HM.out _).mono ?_; rintro e w1 ⟨rfl, o1, g1⟩; have O1 := Lib.hid o1; have G1 := Lib.hid (HG.out _ _ g1); clear o1 g1)
  go_ret
  exact ⟨rfl, O1.out, G1.out⟩
end Go.Proofs.Ytpdkgjmppknbpaa
