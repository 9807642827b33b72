/- impl.ShareOut and spec.ShareOut share out alike. -/
import Derived.Test.YtgapkkkalandhaaSort
namespace Go.Proofs.Ytgapkkkalandhaa
open Go.ChangeShapes Go.WideShapes Go.ChangeAt Go.RowKit
set_option linter.unusedVariables false

/-! ### what is left -/
theorem share_sum (t s : Int) (xs : List Int) : s * isum (downsOf t s xs) + isum (restsOf t s xs) = t * isum xs := by
  induction xs with
  | nil => simp [downsOf, restsOf, isum]
  | cons x r ih =>
    have h := Int.emod_add_mul_ediv (t * x) s
    simp only [downsOf, restsOf, List.map_cons, isum] at ih ⊢
    rw [Int.mul_add, Int.mul_add]
    omega
theorem rests_bd {t s : Int} (hs : 1 ≤ s) (xs : List Int) : 0 ≤ isum (restsOf t s xs) ∧ isum (restsOf t s xs) ≤ (xs.length : Int) * s := by
  induction xs with
  | nil => simp [restsOf, isum]
  | cons x r ih =>
    have h1 := Int.emod_nonneg (t * x) (by omega : s ≠ 0)
    have h2 := Int.emod_lt_of_pos (t * x) (by omega : 0 < s)
    simp only [restsOf, List.map_cons, isum, List.length_cons] at ih ⊢
    have h3 : ((r.length + 1 : Nat) : Int) * s = (r.length : Int) * s + s := by
      rw [Int.natCast_add, Int.add_mul]; simp
    omega
theorem left_bd {t : Int} {xs : List Int} (hs : 1 ≤ isum xs) : 0 ≤ t - isum (downsOf t (isum xs) xs) ∧ t - isum (downsOf t (isum xs) xs) ≤ xs.length := by
  have h1 := share_sum t (isum xs) xs
  obtain ⟨h2, h3⟩ := rests_bd (t := t) hs xs
  have h4 : isum xs * (t - isum (downsOf t (isum xs) xs)) = isum (restsOf t (isum xs) xs) := by
    rw [Int.mul_sub, Int.mul_comm (isum xs) t]; omega
  constructor
  · rcases Int.lt_or_le (t - isum (downsOf t (isum xs) xs)) 0 with h | h
    · exfalso
      have : isum xs * (t - isum (downsOf t (isum xs) xs)) < 0 := Int.mul_neg_of_pos_of_neg (by omega) h
      omega
    · exact h
  · refine Int.le_of_mul_le_mul_left (a := isum xs) ?_ (by omega)
    rw [h4, Int.mul_comm (isum xs)]; exact h3

def Bnd (m : Int) (ps : List Int) : Prop := ∀ i, 0 ≤ ps.getD i 0 ∧ ps.getD i 0 ≤ m
theorem Bnd.bump {m : Int} {ps : List Int} (h : Bnd m ps) (i : Nat) : Bnd (m + 1) (bump ps i) := by
  intro j
  unfold Go.Proofs.Ytgapkkkalandhaa.bump
  by_cases hij : i = j
  · subst hij
    by_cases hl : i < ps.length
    · have := h i
      rw [List.getD_eq_getElem?_getD, List.getElem?_set_self hl]
      simp only [Option.getD_some]; omega
    · have := h i
      rw [List.set_eq_of_length_le (by omega)]; omega
  · have := h j
    rw [List.getD_eq_getElem?_getD, List.getElem?_set_ne hij, ← List.getD_eq_getElem?_getD]; omega
theorem Bnd.mono {m m' : Int} {ps : List Int} (h : Bnd m ps) (hm : m ≤ m') : Bnd m' ps := fun i => ⟨(h i).1, Int.le_trans (h i).2 hm⟩
theorem bump_len (ps : List Int) (i : Nat) : (bump ps i).length = ps.length := by simp [bump]
theorem give_len (k : Nat) : ∀ rs ps : List Int, (give k rs ps).length = ps.length := by
  induction k with
  | zero => intro rs ps; rfl
  | succ k ih => intro rs ps; simp [give, ih]
theorem downs_bnd {t : Int} {xs : List Int} (t0 : 0 ≤ t) (t1 : t ≤ 1000000000) (hs : 1 ≤ isum xs) (ha : amts xs = true) : Bnd 1000000000000000000 (downsOf t (isum xs) xs) := by
  intro i
  rw [List.getD_eq_getElem?_getD]
  by_cases hi : i < xs.length
  · have hx := amts_at ha (List.getElem?_eq_getElem hi)
    have := (share_bd t0 t1 hx.1 hx.2 hs).2.1
    simp [downsOf, hi]; exact this
  · rw [List.getElem?_eq_none (by simp [downsOf]; omega)]; simp

def shareD (t : Int) (xs : List Int) : List Int := give (t - isum (downsOf t (isum xs) xs)).toNat (restsOf t (isum xs) xs) (downsOf t (isum xs) xs)
def shareR (t : Int) (xs : List Int) : List Int × Int := if codeR t xs = 0 then (shareD t xs, 0) else ([], codeR t xs)
theorem shareR_ok {t : Int} {xs : List Int} (h : codeR t xs = 0) : shareR t xs = (shareD t xs, 0) := by simp [shareR, h]
theorem shareR_no {t : Int} {xs : List Int} (h : ¬ codeR t xs = 0) : shareR t xs = ([], codeR t xs) := by simp [shareR, h]
theorem shareD_len (t : Int) (xs : List Int) : (shareD t xs).length = xs.length := by simp [shareD, give_len, downsOf]
theorem shareR_len (t : Int) (xs : List Int) : (shareR t xs).1.length ≤ xs.length := by
  unfold shareR; split
  · simp [shareD_len]
  · simp

/-- Where the order has been found, the first places are those that are picked. -/
theorem shareD_eq {t : Int} {xs : List Int} {os : List Nat} (hs : 1 ≤ isum xs) (ho : Ordered (restsOf t (isum xs) xs) xs.length os) :
    shareD t xs = (os.take (t - isum (downsOf t (isum xs) xs)).toNat).foldl bump (downsOf t (isum xs) xs) := by
  have hl := ho.1.length_eq
  rw [List.length_range] at hl
  have hrl : (restsOf t (isum xs) xs).length = xs.length := by simp [restsOf]
  have hb := left_bd (t := t) hs
  refine give_eq _ os _ _ (by omega) ho.2 (ho.1.nodup_iff.2 List.nodup_range) ?_ ?_
  · intro i hi
    have hin : i < xs.length := by simpa using ho.1.mem_iff.1 hi
    refine ⟨by omega, ?_⟩
    rw [List.getD_eq_getElem?_getD]
    simp [restsOf, hin]
    exact Int.emod_nonneg _ (by omega)
  · intro j hj hm
    exact absurd (ho.1.mem_iff.2 (by simp; omega)) hm

theorem le_isum {xs : List Int} (ha : amts xs = true) {x : Int} (hx : x ∈ xs) : x ≤ isum xs := by
  induction xs with
  | nil => simp at hx
  | cons y r ih =>
    simp only [amts, List.all_cons, Bool.and_eq_true] at ha
    have hy := amt_iff.1 ha.1
    have hr := (isum_bd ha.2).1
    simp only [isum]
    rcases List.mem_cons.1 hx with rfl | hx
    · omega
    · have := ih ha.2 hx; omega
theorem downs_amts {t : Int} {xs : List Int} (t0 : 0 ≤ t) (t1 : t ≤ 1000000000) (hs : 1 ≤ isum xs) (ha : amts xs = true) : amts (downsOf t (isum xs) xs) = true := by
  unfold amts; rw [List.all_eq_true]
  intro y hy
  unfold downsOf at hy
  obtain ⟨x, hx, rfl⟩ := List.mem_map.1 hy
  have hxa : 0 ≤ x ∧ x ≤ 1000000000 := by unfold amts at ha; rw [List.all_eq_true] at ha; exact amt_iff.1 (ha x hx)
  have h1 := (share_bd t0 t1 hxa.1 hxa.2 hs).2.1.1
  have h2 : t * x / isum xs ≤ t := Int.ediv_le_of_le_mul (by omega) (Int.mul_le_mul_of_nonneg_left (le_isum ha hx) t0)
  exact amt_iff.2 ⟨h1, by omega⟩
theorem own_addr {w : World} {base n c : Nat} {e : TypeId} {size : Nat} {A : Option Addr} {xs : List Value} (h : w.ownsRow base e size (.slice A n c) n xs) (hn : 0 < n) : ∃ g, A = some ⟨g, 0, none⟩ ∧ base ≤ g ∧ g < w.heap.size := by
  rcases h.2 with ⟨_, h0⟩ | ⟨g, cap, cur, hv, hb, _⟩
  · omega
  · injection hv with hA _ _
    subst hA
    exact ⟨g, rfl, hb, (h.lt g rfl).2⟩

set_option maxHeartbeats 1000000 in
theorem share_i (t : Int) (A : Option Addr) (c : Nat) (xs : List Int) (w : World) (hx : Ir w A xs) (hn : xs.length ≤ 1048576) :
    Calls Try.prog 13 #[.int .i64 t, .slice A xs.length c] w (NewIntsC w (shareR t xs)) := by
  have H1 := Lib.hid (code_i t A c xs w hx hn)
  by_cases h : codeR t xs = 0
  · obtain ⟨⟨t0, t1⟩, l12, ha, s0, s1⟩ := codeR_inv h
    have h' : (codeR t xs != 0) = false := by simp [h]
    have E := Lib.hid (shareR_ok h)
    have HR := Lib.hid (rounded t A c xs w hx l12 ha t0 t1 s0 s1)
    have hn0 : 0 < xs.length := by
      rcases Nat.eq_zero_or_pos xs.length with h0 | h0
      · have : xs = [] := List.eq_nil_of_length_eq_zero h0
        rw [this] at s0; simp [isum] at s0
      · exact h0
    have HE : Hid (∀ os, Ordered (restsOf t (isum xs) xs) xs.length os → shareD t xs = (os.take (t - isum (downsOf t (isum xs) xs)).toNat).foldl bump (downsOf t (isum xs) xs)) := Lib.hid (fun os ho => shareD_eq s0 ho)
    have hda := downs_amts t0 t1 s0 ha
    have hlb := left_bd (t := t) s0
    have hBn := Lib.hid (downs_bnd t0 t1 s0 ha)
    have hdl : (downsOf t (isum xs) xs).length = xs.length := by simp [downsOf]
    have hrl : (restsOf t (isum xs) xs).length = xs.length := by simp [restsOf]
    generalize downsOf t (isum xs) xs = ds at HE hda hlb hBn hdl HR
    generalize restsOf t (isum xs) xs = rs at HE hrl HR
    obtain ⟨L, hL⟩ : ∃ L : Nat, t - isum ds = (L : Int) := ⟨(t - isum ds).toNat, by omega⟩
    have hL2 : (t - isum ds).toNat = L := by omega
    have hLn : L ≤ xs.length := by omega
    have hdb := isum_bd hda
    rw [hL2] at HE
    have HDA := Lib.hid hda
    have HDL := Lib.hid hdl
    have HRL := Lib.hid hrl
    have hd0 : 0 ≤ isum ds := hdb.1
    have hd1 : isum ds ≤ 1000000000000000 := by rw [hdl] at hdb; omega
    generalize hN : xs.length = n at *
    have HSm : Hid (∀ (D : Option Addr) (d : Nat) (w : World), Ir w D ds → Calls Try.prog 41 #[.slice D n d] w fun e w' => e = .returned (.int .i64 (isum ds)) ∧ w = w') := Lib.hid (fun D d w hD => by
      have := sum_i D d ds w hD hda (by omega); rwa [hdl] at this)
    generalize isum ds = sd at hL HSm hd0 hd1
    clear h hda hlb hdl hrl hL2 hdb hx ha s0 s1
    go_enter Try.func13, Try.ntmps13
    go_wp2_with (first | (go_at_call 39; refine H1.out.mono ?_; rintro e w' ⟨rfl, rfl⟩) | (go_at_call 40; refine HR.out.mono ?_; rintro e w1 ⟨D1, D2, d1, d2, rfl, o1, o2, hne, b1⟩; rw [HDL.out] at o1 hne ⊢; rw [HRL.out] at o2 hne ⊢) | (go_at_call 41; refine (HSm.out D1 d1 _ o1.ir).mono ?_; rintro e w' ⟨rfl, rfl⟩))
    obtain ⟨gp, rfl, hgb, hgl⟩ := own_addr o1 hn0
    refine (order_any D2 d2 n rs w1 HRL.out (by omega) o2.bd o2.ir).mono ?_
    rintro e w2 ⟨g, os, rfl, hO, oo, b2⟩
    have hgo : gp ≠ g := by have := (oo.lt g rfl).1; omega
    have q1 : w2.ownsRow w.heap.size 2 1 (.slice (some ⟨gp, 0, none⟩) n d1) n (ds.map (Value.int .i64)) := o1.below b2
    have t2 := belowGo b1 b2
    have hol : Hid (os.length = n) := Lib.hid (by have := hO.1.length_eq; simpa using this)
    have hom : Hid (∀ o ∈ os, o < n) := Lib.hid (fun o ho => by simpa using hO.1.mem_iff.1 ho)
    have HF := Lib.hid (HE.out os hO)
    clear o1 o2 b1 b2 hO HE H1 HR HSm hne h'
    go_wp2_with fail
    go_loopw [33] (fun s wr => ∃ (k : Nat) (ps : List Int), k ≤ L ∧ s = .int .i64 k ∧ wr.ownsRow w.heap.size 2 1 (.slice (some ⟨gp, 0, none⟩) n d1) n (ps.map (Value.int .i64)) ∧
      Hid ((os.take k).foldl bump ds = ps) ∧ Hid (Bnd (1000000000000000000 + k) ps) ∧ w2.grownBy wr (some gp)) (fun s _ => L - (intOf s).toNat)
    case atStart => exact ⟨0, ds, Nat.zero_le _, rfl, q1, Lib.hid rfl, Lib.hid (hBn.out.mono (by omega)), World.grownBy.refl _ _⟩
    case round =>
      obtain ⟨k, ps, hk, rfl, q, hps, hbn, hg⟩ := hrel
      clear q1
      by_cases hlt : k < L
      · have hok : Hid (os[k]? = some (os[k]'(by have := hol.out; omega))) := Lib.hid (List.getElem?_eq_getElem _)
        generalize os[k]'(by have := hol.out; omega) = o at hok
        have hon : o < n := hom.out o (List.mem_of_getElem? hok.out)
        have hpl : Hid (ps.length = n) := Lib.hid (by have := q.1; simpa using this)
        have hc1 : wr.cell? ⟨g, k, none⟩ = some (.int .i64 (o : Int)) := by
          refine hg.cell ?_ (by simpa using Ne.symm hgo)
          rw [oo.cellAt k (by omega)]; exact natCells_at hok.out
        have hc2 : wr.cell? ⟨gp, o, none⟩ = some (.int .i64 (ps.getD o 0)) := by
          rw [q.cellAt o (by omega)]; simp [List.getD_eq_getElem?_getD, (by have := hpl.out; omega : o < ps.length)]
        have hf := q.frozenAt o
        obtain ⟨p0, p1⟩ := hbn.out o
        have HS := Lib.hid (q.stored o (.int .i64 (ps.getD o 0 + 1)))
        have HB := Lib.hid (hbn.out.bump o)
        have HT : Hid ((os.take (k + 1)).foldl bump ds = bump ps o) := Lib.hid (by rw [snoc_of hok.out, List.foldl_append, hps.out]; rfl)
        have HM : Hid (((ps.map (Value.int .i64)).set o (.int .i64 (ps.getD o 0 + 1))) = (bump ps o).map (Value.int .i64)) := Lib.hid (by simp [bump, List.map_set])
        generalize ps.getD o 0 = pv at hc2 p0 p1 HS HM
        clear q hps hbn
        go_wp2_with fail
        go_roundw
        case rel => exact ⟨k + 1, bump ps o, by omega, by go_num, by rw [← HM.out]; exact HS.out.1, HT, Lib.hid (HB.out.mono (by omega)), hg.trans HS.out.2⟩
        case measure => simp [intOf]; omega
      · obtain rfl : k = L := by omega
        have hpl : Hid (ps.length = n) := Lib.hid (by have := q.1; simpa using this)
        have HT : Hid (shareD t xs = ps) := Lib.hid (by rw [HF.out, hps.out])
        clear hps HF
        go_wp2_with fail
        go_ret2
        refine ⟨some ⟨gp, 0, none⟩, d1, ?_, ?_, t2.grown hg t2.size (by intro j hj; cases hj; exact hgb)⟩
        · rw [E.out, HT.out]; simp only; rw [hpl.out] <;> rfl
        · rw [E.out, HT.out]; simp only; rw [hpl.out]; exact q
  · have h' : (codeR t xs != 0) = true := by simpa using h
    have E := Lib.hid (shareR_no h)
    clear h
    go_enter Try.func13, Try.ntmps13
    go_wp2_with (go_at_call 39; refine H1.out.mono ?_; rintro e w' ⟨rfl, rfl⟩)
    go_ret2
    exact ⟨none, 0, by rw [E.out] <;> rfl, by rw [E.out]; exact Oi.nil _ _, Below.refl _ _⟩
end Go.Proofs.Ytgapkkkalandhaa
