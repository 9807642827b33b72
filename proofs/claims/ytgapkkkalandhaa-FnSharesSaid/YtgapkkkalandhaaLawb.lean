/- laws.FnShares: shares add up to the total and are fair. -/
import Derived.Test.YtgapkkkalandhaaShareb
import Derived.Test.YtgapkkkalandhaaFair
import Derived.Test.YtgapkkkalandhaaLawa
import Derived.Deep.RegionWith
import Derived.Deep.AppendLies
namespace Go.Proofs.Ytgapkkkalandhaa
open Go.ChangeShapes Go.WideShapes Go.ChangeAt Go.RowKit
set_option linter.unusedVariables false

theorem isum_set {l : List Int} {p : Nat} (hp : p < l.length) (v : Int) : isum (l.set p v) = isum l - l.getD p 0 + v := by
  induction l generalizing p with
  | nil => simp at hp
  | cons x r ih =>
    cases p with
    | zero => simp [isum]; omega
    | succ p =>
      have := ih (p := p) (by simpa using hp)
      simp only [List.set_cons_succ, isum, List.getD_cons_succ, this]; omega
def pos (rs : List Int) : Int := isum (rs.map fun r => max r 0)
theorem pos_none {rs : List Int} (h : ∀ j, j < rs.length → rs.getD j 0 ≤ 0) : pos rs = 0 := by
  induction rs with
  | nil => rfl
  | cons x r ih =>
    have h0 := h 0 (by simp)
    have := ih (fun j hj => by have := h (j + 1) (by simpa using hj); simpa using this)
    simp only [List.getD_cons_zero] at h0
    simp only [pos, List.map_cons, isum] at this ⊢
    omega
theorem pos_set {rs : List Int} {p : Nat} (hp : p < rs.length) : pos (rs.set p (-1)) = pos rs - max (rs.getD p 0) 0 := by
  unfold pos
  rw [List.map_set, isum_set (by simpa using hp)]
  have : (rs.map fun r => max r 0).getD p 0 = max (rs.getD p 0) 0 := by simp [List.getD_eq_getElem?_getD, hp]
  rw [this, show max (-1 : Int) 0 = 0 from rfl]; omega
theorem pick_max {rs : List Int} (j : Nat) (hj : j < rs.length) : rs.getD j 0 ≤ rs.getD (pick rs) 0 := by
  obtain ⟨p1, _⟩ := pickFrom_spec rs rs.length 0 0 (by omega) (by omega) (by omega)
  exact p1 j (by omega)

theorem give_inv {s : Int} {ds0 rs0 : List Int} (k : Nat) : ∀ rs ps : List Int, rs.length = ds0.length → ps.length = ds0.length → s * k ≤ pos rs → (∀ j, rs.getD j 0 ≤ s - 1) → 1 ≤ s →
    (∀ i, i < ds0.length → (rs.getD i 0 = rs0.getD i 0 ∧ ps.getD i 0 = ds0.getD i 0) ∨ (rs.getD i 0 = -1 ∧ ps.getD i 0 = ds0.getD i 0 + 1 ∧ 0 < rs0.getD i 0)) →
    isum (give k rs ps) = isum ps + k ∧ ∀ i, i < ds0.length → (give k rs ps).getD i 0 = ds0.getD i 0 ∨ ((give k rs ps).getD i 0 = ds0.getD i 0 + 1 ∧ 0 < rs0.getD i 0) := by
  induction k with
  | zero =>
    intro rs ps _ _ _ _ _ hinv
    refine ⟨by simp [give], fun i hi => ?_⟩
    rcases hinv i hi with h | h
    · exact .inl h.2
    · exact .inr h.2
  | succ k ih =>
    intro rs ps hr hp hk hle hs hinv
    have hsk : s * ((k + 1 : Nat) : Int) = s * k + s := by rw [Int.natCast_add, Int.mul_add]; simp
    have hk0 : 0 ≤ s * (k : Int) := Int.mul_nonneg (by omega) (by omega)
    have hlen : 0 < rs.length := by
      rcases Nat.eq_zero_or_pos rs.length with h0 | h0
      · have : rs = [] := List.eq_nil_of_length_eq_zero h0
        subst this
        have : pos [] = 0 := rfl
        omega
      · exact h0
    have hpl := pick_lt hlen
    have hpp : 0 < rs.getD (pick rs) 0 := by
      rcases Int.lt_or_le 0 (rs.getD (pick rs) 0) with h | h
      · exact h
      · exfalso
        have := pos_none (rs := rs) (fun j hj => Int.le_trans (pick_max j hj) h)
        omega
    have hps := pos_set hpl
    have hple := hle (pick rs)
    have hpd : pick rs < ds0.length := by omega
    simp only [give]
    have hset : ∀ i, i ≠ pick rs → (rs.set (pick rs) (-1)).getD i 0 = rs.getD i 0 ∧ (ps.set (pick rs) (ps.getD (pick rs) 0 + 1)).getD i 0 = ps.getD i 0 := fun i hi => by
      simp [List.getD_eq_getElem?_getD, List.getElem?_set_ne (Ne.symm hi)]
    have hseto : (rs.set (pick rs) (-1)).getD (pick rs) 0 = -1 ∧ (ps.set (pick rs) (ps.getD (pick rs) 0 + 1)).getD (pick rs) 0 = ps.getD (pick rs) 0 + 1 := by
      simp [List.getD_eq_getElem?_getD, hpl, (by omega : pick rs < ps.length)]
    have := ih (rs.set (pick rs) (-1)) (ps.set (pick rs) (ps.getD (pick rs) 0 + 1)) (by simpa using hr) (by simpa using hp) (by rw [hps]; omega) ?_ hs ?_
    · refine ⟨?_, this.2⟩
      rw [this.1, isum_set (by omega)]; omega
    · intro j
      by_cases hj : j = pick rs
      · rw [hj, hseto.1]; omega
      · rw [(hset j hj).1]; exact hle j
    · intro i hi
      by_cases hj : i = pick rs
      · right
        rw [hj, hseto.1, hseto.2]
        rcases hinv (pick rs) hpd with h | h
        · exact ⟨rfl, by omega, by omega⟩
        · omega
      · rw [(hset i hj).1, (hset i hj).2]; exact hinv i hi

theorem fairs_of {t s : Int} {xs ps : List Int} (h : ∀ i, i < xs.length → ps.getD i 0 = (downsOf t s xs).getD i 0 ∨ (ps.getD i 0 = (downsOf t s xs).getD i 0 + 1 ∧ 0 < (restsOf t s xs).getD i 0)) : fairs t s ps xs = true := by
  induction xs generalizing ps with
  | nil => cases ps <;> rfl
  | cons x r ih =>
    cases ps with
    | nil => rfl
    | cons p q =>
      have h0 := h 0 (by simp)
      have hr := ih (ps := q) (fun i hi => by have := h (i + 1) (by simpa using hi); simpa [downsOf, restsOf] using this)
      simp only [fairs, hr, Bool.and_true]
      simp only [downsOf, restsOf, List.map_cons, List.getD_cons_zero] at h0
      exact decide_eq_true h0

theorem le_sum_of {ps : List Int} (h0 : ∀ p ∈ ps, 0 ≤ p) : 0 ≤ isum ps ∧ ∀ p ∈ ps, p ≤ isum ps := by
  induction ps with
  | nil => simp [isum]
  | cons p q ih =>
    obtain ⟨h1, h2⟩ := ih (fun x hx => h0 x (List.mem_cons_of_mem _ hx))
    have hp := h0 p (List.mem_cons_self ..)
    simp only [isum]
    refine ⟨by omega, fun x hx => ?_⟩
    rcases List.mem_cons.1 hx with rfl | hx
    · omega
    · have := h2 x hx; omega

theorem pos_same {l : List Int} (h : ∀ x ∈ l, 0 ≤ x) : pos l = isum l := by
  induction l with
  | nil => rfl
  | cons x r ih =>
    have h0 := h x (List.mem_cons_self ..)
    have := ih (fun y hy => h y (List.mem_cons_of_mem _ hy))
    simp only [pos, List.map_cons, isum] at this ⊢
    rw [this]; omega
theorem shareD_facts {t : Int} {xs : List Int} (h : codeR t xs = 0) : fairR t xs (shareD t xs) = (true, 0) ∧ isum (shareD t xs) = t ∧ amts (shareD t xs) = true := by
  obtain ⟨⟨t0, t1⟩, l12, ha, s0, s1⟩ := codeR_inv h
  have hlb := left_bd (t := t) s0
  have hsum := share_sum t (isum xs) xs
  have hrn : ∀ x ∈ restsOf t (isum xs) xs, 0 ≤ x := by
    intro x hx
    obtain ⟨y, _, rfl⟩ := List.mem_map.1 hx
    exact Int.emod_nonneg _ (by omega)
  have hrp := pos_same hrn
  have hL : ((t - isum (downsOf t (isum xs) xs)).toNat : Int) = t - isum (downsOf t (isum xs) xs) := Int.toNat_of_nonneg hlb.1
  have hgi := give_inv (s := isum xs) (ds0 := downsOf t (isum xs) xs) (rs0 := restsOf t (isum xs) xs) (t - isum (downsOf t (isum xs) xs)).toNat (restsOf t (isum xs) xs) (downsOf t (isum xs) xs)
    (by simp [restsOf, downsOf]) rfl (by rw [hL, hrp, Int.mul_sub, Int.mul_comm (isum xs) t]; omega) ?_ s0 (fun i _ => .inl ⟨rfl, rfl⟩)
  · obtain ⟨h1, h2⟩ := hgi
    change isum (shareD t xs) = _ at h1
    have h2 : ∀ i, i < xs.length → (shareD t xs).getD i 0 = (downsOf t (isum xs) xs).getD i 0 ∨ ((shareD t xs).getD i 0 = (downsOf t (isum xs) xs).getD i 0 + 1 ∧ 0 < (restsOf t (isum xs) xs).getD i 0) :=
      fun i hi => h2 i (by simpa [downsOf] using hi)
    rw [hL] at h1
    have hst : isum (shareD t xs) = t := by omega
    have hn : ∀ p ∈ shareD t xs, 0 ≤ p := by
      intro p hp
      obtain ⟨i, hi, e⟩ := List.mem_iff_getElem.1 hp
      have hd := (downs_bnd t0 t1 s0 ha i).1
      have hix : i < xs.length := by rw [shareD_len] at hi; exact hi
      have hg : (shareD t xs).getD i 0 = p := by rw [List.getD_eq_getElem?_getD, List.getElem?_eq_getElem hi, e]; rfl
      have := h2 i hix
      rw [hg] at this
      omega
    have hle := le_sum_of hn
    have ham : amts (shareD t xs) = true := by
      unfold amts; rw [List.all_eq_true]
      exact fun p hp => amt_iff.2 ⟨hn p hp, by have := hle.2 p hp; omega⟩
    refine ⟨?_, hst, ham⟩
    rw [fairR_4 ham h (shareD_len t xs) hst, fairs_of h2]
  · intro j
    rw [List.getD_eq_getElem?_getD]
    by_cases hj : j < xs.length
    · simp [restsOf, hj]
      have := Int.emod_lt_of_pos (t * xs[j]) (by omega : 0 < isum xs)
      omega
    · rw [List.getElem?_eq_none (by simp [restsOf]; omega)]; simp; omega
theorem shareR_facts {t : Int} {xs : List Int} (h : (shareR t xs).2 = 0) : fairR t xs (shareR t xs).1 = (true, 0) ∧ isum (shareR t xs).1 = t ∧ amts (shareR t xs).1 = true ∧ (shareR t xs).1.length = xs.length ∧ 0 < xs.length := by
  by_cases hc : codeR t xs = 0
  · rw [shareR_ok hc]
    obtain ⟨h1, h2, h3⟩ := shareD_facts hc
    refine ⟨h1, h2, h3, shareD_len t xs, ?_⟩
    obtain ⟨_, _, _, s0, _⟩ := codeR_inv hc
    rcases Nat.eq_zero_or_pos xs.length with h0 | h0
    · have : xs = [] := List.eq_nil_of_length_eq_zero h0
      rw [this] at s0; simp [isum] at s0
    · exact h0
  · rw [shareR_no hc] at h; exact absurd h hc

def DrawnFair (w : World) (e : Ending) (w' : World) : Prop :=
  ∃ (t : Int) (B D : Option Addr) (d f : Nat) (ys zs : List Int), e = .returned (.tuple #[.int .i64 t, .slice B ys.length d, .slice D zs.length f]) ∧ ys.length ≤ 15 ∧ zs.length ≤ 15 ∧
    Ir w' B ys ∧ Ir w' D zs ∧ Below w.heap.size w w'

set_option maxHeartbeats 1000000 in
theorem drawIsFairShare (A : Option Addr) (c : Nat) (bs : List Int) (w : World) (h : Code0 w A bs) : Calls Try.prog 15 #[.slice A bs.length c] w (DrawnFair w) := by
  go_enter Try.func15, Try.ntmps15
  go_wp2_with fail
  refine (code_from A c bs _ h).mono ?_
  rintro e w1 ⟨g, rfl, s1, b1⟩
  go_wp2_with fail
  refine (drawShareOut A c bs _ (h.below b1)).mono ?_
  rintro e w2 ⟨t, B, d, ys, rfl, ht, yl, yin, yo, b2⟩
  have HF := Lib.hid (@shareR_facts t ys)
  have hrl := shareR_len t ys
  have HS := Lib.hid (share_s t B d ys w2 yo.ir (by omega))
  generalize shareR t ys = r at HF HS hrl
  obtain ⟨ps, k⟩ := r
  simp only at hrl
  go_wp2_with fail
  refine HS.out.mono ?_
  rintro e w3 ⟨D, f, rfl, po, b3⟩
  have t3 := belowGo (belowGo b1 b2) b3
  have s3 := (s1.below b2).below b3
  have yi := (yo.below b3).ir
  have sg := s1.1
  by_cases hk : k = 0
  · subst hk
    obtain ⟨_, hps, ham, hpl, hy0⟩ := HF.out rfl
    replace hpl : ps.length = ys.length := hpl
    replace ham : amts ps = true := ham
    have HPL := Lib.hid hpl
    have hp0 : 0 < ps.length := by omega
    have hy15 : ps.length ≤ 15 := by omega
    obtain ⟨gp, rfl, hgp, hgp2⟩ := own_addr (n := ps.length) po (by simpa using hp0)
    clear HF HS hrl hpl
    have po' : w3.ownsRow w2.heap.size 2 1 (.slice (some ⟨gp, 0, none⟩) ps.length f) ps.length (ps.map (Value.int .i64)) := po
    clear po
    go_wp2_with fail
    refine (next_any g _ _ A c bs _ s3 (by omega)).mono ?_
    rintro e w4 ⟨k1, rfl, k0, kb, s4, g4⟩
    obtain ⟨k1, rfl⟩ := Int.eq_ofNat_of_zero_le k0
    have hk1 : k1 < ps.length := by omega
    go_wp2_with fail
    refine (next_any g _ _ A c bs _ s4 (by omega)).mono ?_
    rintro e w5 ⟨q, rfl, q0, qb, s5, g5⟩
    have hgg : g < w2.heap.size := Nat.lt_of_lt_of_le s1.lt b2.size
    have p5 := own_src (own_src po' g4 hgg) g5 hgg
    have t5 := src_below (src_below t3 g4 sg) g5 sg
    have y5 : Ir w5 B ys := by
      have hB := yo.lo
      refine Ir.grown (Ir.grown yi g4 ?_) g5 ?_
      all_goals
        rintro a rfl
        have h1 := hB a.block rfl
        have h2 := s1.lt
        omega
    have hyg : ∀ a, B = some a → a.block ≠ g := by
      rintro a rfl
      have h1 := yo.lo a.block rfl
      have h2 := s1.lt
      omega
    have hyp : ∀ a, B = some a → a.block ≠ gp := by
      rintro a rfl
      have h1 := yo.bd a rfl
      omega
    have hgpw : w.heap.size ≤ gp := Nat.le_trans (Nat.le_trans b1.size b2.size) hgp
    clear s3 yi g4 g5 po' t3 s4
    have hc5 : w5.cell? ⟨gp, k1, none⟩ = some (.int .i64 (ps.getD k1 0)) := own_getD p5 hk1
    have hz5 : w5.cell? ⟨gp, 0, none⟩ = some (.int .i64 (ps.getD 0 0)) := own_getD p5 hp0
    have hf5 := p5.frozenAt k1
    have hx : 0 ≤ ps.getD k1 0 ∧ ps.getD k1 0 ≤ 1000000000 := amts_at ham (x := ps.getD k1 0) (k := k1) (by simp [List.getD_eq_getElem?_getD, hk1])
    have hgpg : gp ≠ g := by omega
    obtain ⟨x0, x1⟩ := hx
    rcases (by omega : q = 0 ∨ q = 1 ∨ 1 < q) with rfl | rfl | hq
    · generalize ps.getD k1 0 = x at hc5 x0 x1
      go_wp2_with fail
      have s5' : Src w5.drew w.heap.size g A c bs := s5
      have hc5' : w5.drew.cell? ⟨gp, k1, none⟩ = some (.int .i64 x) := hc5
      have p5' : w5.drew.ownsRow w2.heap.size 2 1 (.slice (some ⟨gp, 0, none⟩) ps.length f) ps.length (ps.map (Value.int .i64)) := p5
      have HN := Lib.hid (next_any g 5 _ A c bs w5.drew s5' (by omega))
      have HK : Hid (∀ w6, w5.drew.grownBy w6 (some g) → w6.cell? ⟨gp, k1, none⟩ = some (.int .i64 x) ∧ w6.frozen? ⟨gp, k1, none⟩ = false ∧ w6.ownsRow w2.heap.size 2 1 (.slice (some ⟨gp, 0, none⟩) ps.length f) ps.length (ps.map (Value.int .i64))) := Lib.hid (fun w6 h6 =>
        have o6 := own_src p5' h6 hgg
        ⟨h6.cell hc5' (by simpa using hgpg), o6.frozenAt k1, o6⟩)
      clear s5' hc5' p5' s5 hz5
      go_region_with (go_at_call 45; refine HN.out.mono ?_; rintro e w6 ⟨q6, rfl, a6, b6, s6, g6⟩; have hc6 := (HK.out w6 g6).1; have hf6 := (HK.out w6 g6).2.1)
      all_goals
        go_wp2_with fail
        go_ret3
        have HO := (HK.out w6 g6).2.2
        have HS := HO.stored k1 (.int .i64 (IntKind.i64.wrap (IntKind.i64.wrap (x + q6) - 2)))
        have g6' : w5.grownBy w6 (some g) := ⟨g6.os, g6.tape, g6.output, g6.size, g6.block⟩
        have hb6 : Below w.heap.size w w6 := src_below t5 g6' sg
        refine ⟨t, B, some ⟨gp, 0, none⟩, d, f, ys, ps.set k1 (IntKind.i64.wrap (IntKind.i64.wrap (x + q6) - 2)), by rw [List.length_set] <;> rfl, by omega, by rw [List.length_set]; omega, ?_, ?_, ?_⟩
        · refine Ir.grown (g := gp) (Ir.grown (w := w5) y5 g6' hyg) HS.2 hyp
        · exact Rw.own (c := f) (base := w2.heap.size) (e := 2) (n := ps.length) (by rw [List.map_set]; exact HS.1)
        · exact hb6.grown HS.2 hb6.size (by intro j hj; cases hj; exact hgpw)
    · generalize hx' : ps.getD k1 0 = x at hc5 x0 x1
      have HX := Lib.hid hx'
      clear hx'
      have HS := p5.stored k1 (.int .i64 (x + 1))
      have hM : (ps.map (Value.int .i64)).set k1 (.int .i64 (x + 1)) = (ps.set k1 (x + 1)).map (Value.int .i64) := by rw [List.map_set]
      rw [hM] at HS
      have hz6 : (w5.setCell ⟨gp, k1, none⟩ (.int .i64 (x + 1))).cell? ⟨gp, 0, none⟩ = some (.int .i64 ((ps.set k1 (x + 1)).getD 0 0)) := own_getD HS.1 hp0
      have hf6 := HS.1.frozenAt 0
      have hz0 : -1 ≤ (ps.set k1 (x + 1)).getD 0 0 ∧ (ps.set k1 (x + 1)).getD 0 0 ≤ 1000000001 := by
        by_cases h0 : k1 = 0
        · rw [h0, List.getD_eq_getElem?_getD, List.getElem?_set_self hp0]; simp only [Option.getD_some]; omega
        · rw [List.getD_eq_getElem?_getD, List.getElem?_set_ne h0]
          have := amts_at ham (List.getElem?_eq_getElem hp0)
          simp [hp0]; omega
      obtain ⟨z0, z1⟩ := hz0
      have HS2 := HS.1.stored 0 (.int .i64 ((ps.set k1 (x + 1)).getD 0 0 - 1))
      have hM2 : ((ps.set k1 (x + 1)).map (Value.int .i64)).set 0 (.int .i64 ((ps.set k1 (x + 1)).getD 0 0 - 1)) = ((ps.set k1 (x + 1)).set 0 ((ps.set k1 (x + 1)).getD 0 0 - 1)).map (Value.int .i64) := (List.map_set ..).symm
      rw [hM2] at HS2
      generalize (ps.set k1 (x + 1)).getD 0 0 = z at *
      have HG := Lib.hid (HS.2.trans HS2.2)
      have HO := Lib.hid HS2.1
      clear HS HS2 hM hM2 HX p5
      go_wp2_with fail
      go_ret3
      have hl2 : ((ps.set k1 (x + 1)).set 0 (z - 1)).length = ps.length := by simp
      exact ⟨t, B, some ⟨gp, 0, none⟩, d, f, ys, (ps.set k1 (x + 1)).set 0 (z - 1), by rw [hl2] <;> rfl, by omega, by omega, Ir.grown y5 HG.out hyp, Rw.own (c := f) (base := w2.heap.size) (e := 2) (n := ps.length) HO.out, t5.grown HG.out t5.size (by intro j hj; cases hj; exact hgpw)⟩
    · have e0 : (q == 0) = false := beq_eq_false_iff_ne.2 (by omega)
      have e1 : (q == 1) = false := beq_eq_false_iff_ne.2 (by omega)
      go_wp2_with fail
      go_ret3
      exact ⟨t, B, some ⟨gp, 0, none⟩, d, f, ys, ps, rfl, by omega, by omega, y5, Rw.own (c := f) (base := w2.heap.size) (e := 2) (n := ps.length) p5, t5⟩
  · have hk' : (k != 0) = true := bne_iff_ne.2 hk
    clear hk HF HS
    go_wp2_with fail
    refine (weights_any g _ A c bs _ s3).mono ?_
    rintro e w4 ⟨D4, d4, zs, rfl, zl, zin, zo, s4, g4⟩
    go_wp2_with fail
    go_ret3
    refine ⟨t, B, D4, d, d4, ys, zs, rfl, by omega, by omega, ?_, zo.ir, src_below t3 g4 sg⟩
    refine Ir.grown yi g4 ?_
    rintro a rfl
    have h1 := yo.lo a.block rfl
    have h2 := s1.lt
    omega

set_option maxRecDepth 100000 in
set_option maxHeartbeats 2000000 in
theorem law_FnShares (A : Option Addr) (c : Nat) (bs : List Int) (w : World) (hA : Rw w A (bs.map (Value.int .u8))) (hm : bs.length ≤ maxLen) (hb : ∀ b ∈ bs, 0 ≤ b ∧ b ≤ 255) (hB : bs ≠ [] → Bd A w.heap.size) :
    Calls Try.prog 3 #[.slice A bs.length c] w fun e w' => e = .returned (.bool true) ∧ Below w.heap.size w w' := by
  by_cases hl : 4096 < bs.length
  · have hd : decide (4096 < bs.length) = true := by simpa using hl
    go_enter Try.func3, Try.ntmps3
    go_wp2_with (go_at_call 11; refine (big_any _ _ _ _ hm).mono ?_; rintro e w' ⟨rfl, rfl⟩)
    go_ret
    exact ⟨rfl, Below.refl _ _⟩
  · have hd : decide (4096 < bs.length) = false := by simpa using hl
    have h0 : Code0 w A bs := ⟨hA, hB, hb, by omega⟩
    clear hA hB hb
    go_enter Try.func3, Try.ntmps3
    go_wp2_with (go_at_call 11; refine (big_any _ _ _ _ hm).mono ?_; rintro e w' ⟨rfl, rfl⟩)
    refine (drawShareOut A c bs _ h0).mono ?_
    rintro e w1 ⟨t, B, d, ys, rfl, ht, yl, yin, yo, b1⟩
    have h1 := h0.below b1
    have HF := Lib.hid (@shareR_facts t ys)
    have hrl := shareR_len t ys
    have HI := Lib.hid (fun A c w hx => share_i t A c ys w hx (by omega))
    have HS := Lib.hid (fun A c w hx => share_s t A c ys w hx (by omega))
    generalize shareR t ys = r at HF HI HS hrl
    obtain ⟨ps, k⟩ := r
    replace hrl : ps.length ≤ ys.length := hrl
    clear h0
    go_wp2_with fail
    refine (HI.out B d w1 yo.ir).mono ?_
    rintro e w2 ⟨P2, p2, rfl, o2, b2⟩
    go_wp2_with fail
    refine (HS.out B d w2 (yo.below b2).ir).mono ?_
    rintro e w3 ⟨P3, p3, rfl, o3, b3⟩
    have t3 := belowGo (belowGo b1 b2) b3
    have h3 := (h1.below b2).below b3
    go_wp2_with fail
    refine (drawIsFairShare A c bs _ h3).mono ?_
    rintro e w4 ⟨t4, B4, D4, d4, f4, ws, zs, rfl, wl, zl, wi, zi, b4⟩
    have HFI := Lib.hid (fun w hx hp => fair_i t4 B4 D4 d4 f4 ws zs w hx hp (by omega) (by omega))
    have HFS := Lib.hid (fun w hx hp => fair_s t4 B4 D4 d4 f4 ws zs w hx hp (by omega) (by omega))
    generalize fairR t4 ws zs = fr at HFI HFS
    obtain ⟨ok, fk⟩ := fr
    go_wp2_with fail
    refine (HFI.out _ wi zi).mono ?_
    rintro e w5 ⟨rfl, b5⟩
    go_wp2_with fail
    refine (HFS.out _ (wi.below b5) (zi.below b5)).mono ?_
    rintro e w6 ⟨rfl, b6⟩
    have t6 := belowGo (belowGo (belowGo t3 b4) b5) b6
    have i2 := ((((o2.below b3).below b4).below b5).below b6)
    have i3 := (((o3.below b4).below b5).below b6)
    have iy := ((((((yo.below b2).below b3).below b4).below b5).below b6)).ir
    clear HI HS HFI HFS h1 h3 b1 b2 b3 b4 b5 b6 t3 o2 o3 wi zi yo
    have hok : (ok != ok) = false := by simp
    by_cases hk : k = 0
    · subst hk
      obtain ⟨hfr, hps, ham, hpl, _⟩ := HF.out rfl
      replace hfr : fairR t ys ps = (true, 0) := hfr
      replace hps : isum ps = t := hps
      replace ham : amts ps = true := ham
      have HL := Lib.hid (fun (w : World) (h : Ir w P2 ps) => sum_l P2 p2 ps w h ham (by omega))
      have HR := Lib.hid (fun (w : World) (hy : Ir w B ys) (hp : Ir w P2 ps) => fair_i t B P2 d p2 ys ps w hy hp (by omega) (by omega))
      rw [hfr] at HR
      rw [hps] at HL
      clear hfr hps ham hpl HF
      have htt : (t == t) = true := by simp
      go_wp2_with fail
      refine (like_same P2 P3 _ _ p2 p3 ps w6 i2.ir i3.ir rfl rfl (by omega)).mono ?_
      rintro e w7 ⟨rfl, b7⟩
      go_wp2_with fail
      refine (HR.out w7 (iy.below b7) (i2.below b7).ir).mono ?_
      rintro e w8 ⟨rfl, b8⟩
      go_wp2_with fail
      refine (HL.out w8 ((i2.below b7).below b8).ir).mono ?_
      rintro e w' ⟨rfl, rfl⟩
      go_wp2_with fail
      go_ret
      exact ⟨rfl, belowGo (belowGo t6 b7) b8⟩
    · have hk' : (k != 0) = true := bne_iff_ne.2 hk
      clear hk HF
      go_wp2_with fail
      refine (like_same P2 P3 _ _ p2 p3 ps w6 i2.ir i3.ir rfl rfl (by omega)).mono ?_
      rintro e w7 ⟨rfl, b7⟩
      go_wp2_with fail
      go_ret
      exact ⟨rfl, belowGo t6 b7⟩
end Go.Proofs.Ytgapkkkalandhaa
