/- ReadParty on both sides. (by gen_rdp.py) -/
import Derived.Test.YtjgagiigpijaiaaDoorCut
import Derived.Test.YtjgagiigpijaiaaDoorVal
import Derived.Test.YtjgagiigpijaiaaDoorSps
import Derived.Test.YtjgagiigpijaiaaDoorPti
namespace Go.Proofs.YtjgagiigpijaiaaDoor
open Go.ChangeShapes Go.WideShapes Go.ChangeAt Go.RowKit
set_option linter.unusedVariables false

/-- s is the text of the party. -/
def Fits (s : List UInt8) (p : Pty) : Prop := p.ok = true ∧ ptext p = s
open Classical in
noncomputable def rpR (s : List UInt8) : Pty × Int := if h : ∃ p, Fits s p then (Classical.choose h, 0) else (⟨[], 0, []⟩, 6)
theorem rpR_no {s : List UInt8} (h : ¬ ∃ p, Fits s p) : rpR s = (⟨[], 0, []⟩, 6) := by unfold rpR; rw [dif_neg h]
theorem no47 {l : List UInt8} (h : pcode l = true) : ∀ b ∈ l, b ≠ 47 := by
  intro b hb e
  have := List.all_eq_true.1 (pcode_iff.1 h).2 b hb
  subst e
  revert this; decide
theorem dec_small {n : Nat} (h : n ≤ 4) : Lib.decDigits n = [UInt8.ofNat (48 + n)] := Lib.decDigits_one (by omega)
theorem dec_no47 {n : Nat} (h : n ≤ 4) : ∀ b ∈ Lib.decDigits n, b ≠ 47 := by
  rw [dec_small h]
  intro b hb
  simp only [List.mem_singleton] at hb
  subst hb
  rcases (by omega : n = 0 ∨ n = 1 ∨ n = 2 ∨ n = 3 ∨ n = 4) with rfl | rfl | rfl | rfl | rfl <;> decide
theorem dec_parse {n : Nat} (h : n ≤ 4) : Lib.parseIntB 64 (Lib.decDigits n) = .ok (n : Int) := by
  rw [dec_small h]
  rcases (by omega : n = 0 ∨ n = 1 ∨ n = 2 ∨ n = 3 ∨ n = 4) with rfl | rfl | rfl | rfl | rfl <;> rfl
theorem dec_val {n : Nat} (h : n ≤ 4) : valR (Lib.decDigits n) = ((n : Int), true) := by
  have hf : Lib.decFrom 0 (Lib.decDigits n) = some n := by
    rw [dec_small h]
    rcases (by omega : n = 0 ∨ n = 1 ∨ n = 2 ∨ n = 3 ∨ n = 4) with rfl | rfl | rfl | rfl | rfl <;> rfl
  rw [valR_some (by rw [dec_small h]; simp) hf]
  simp
/-- The agent behind its text. -/
def unag (x : List UInt8) : List UInt8 := if (x == [45]) = true then [] else x
theorem unag_orS {p : Pty} (h : p.ok = true) : unag (orS p.a [45]) = p.a := by
  obtain ⟨_, _, ha⟩ := pok h
  unfold unag orS
  rcases ha with ha | ⟨ha, _⟩
  · rw [ha]; rfl
  · have h1 : (p.a == []) = false := by
      rw [beq_eq_false_iff_ne]; rintro e; rw [e, pcode_0] at ha; cases ha
    have h2 : (p.a == [45]) = false := by
      rw [beq_eq_false_iff_ne]; rintro e; rw [e] at ha; revert ha; decide
    rw [h1, if_neg Bool.false_ne_true, h2, if_neg Bool.false_ne_true]
theorem or_no47 {p : Pty} (h : p.ok = true) : ∀ b ∈ orS p.a [45], b ≠ 47 := by
  obtain ⟨_, _, ha⟩ := pok h
  unfold orS
  split
  · intro b hb; simp at hb; subst hb; decide
  · rcases ha with ha | ⟨ha, _⟩
    · rename_i h1; rw [ha] at h1; exact absurd rfl h1
    · exact no47 ha
structure Parts (s : List UInt8) (p : Pty) (n : Nat) : Prop where
  k : p.k = n
  n4 : n ≤ 4
  cut1 : cutL s 47 = (p.c, Lib.decDigits n ++ 47 :: orS p.a [45], true)
  cut2 : cutL (Lib.decDigits n ++ 47 :: orS p.a [45]) 47 = (Lib.decDigits n, orS p.a [45], true)
  words : sps [] s = [p.c, Lib.decDigits n, orS p.a [45]]
  ag : unag (orS p.a [45]) = p.a
theorem fits_parts {s : List UInt8} {p : Pty} (h : Fits s p) : ∃ n, Parts s p n := by
  obtain ⟨hp, rfl⟩ := h
  obtain ⟨hc, ⟨hk0, hk4⟩, _⟩ := pok hp
  obtain ⟨n, hn⟩ := Int.eq_ofNat_of_zero_le hk0
  have h4 : n ≤ 4 := by omega
  refine ⟨n, hn, h4, ?_, cut_at (dec_no47 h4), ?_, unag_orS hp⟩
  · unfold ptext; rw [hn, Int.toNat_natCast]; exact cut_at (no47 hc)
  · unfold ptext; rw [hn, Int.toNat_natCast, sps_at _ _ _ (no47 hc), sps_at _ _ _ (dec_no47 h4), sps_end _ _ (or_no47 hp)]; simp
theorem fits_one {s : List UInt8} {p q : Pty} (hp : Fits s p) (hq : Fits s q) : p = q := by
  obtain ⟨n, P⟩ := fits_parts hp
  obtain ⟨m, Q⟩ := fits_parts hq
  have e1 := P.cut1.symm.trans Q.cut1
  have ec : p.c = q.c := congrArg Prod.fst e1
  have er : Lib.decDigits n ++ 47 :: orS p.a [45] = Lib.decDigits m ++ 47 :: orS q.a [45] := congrArg (fun x => x.2.1) e1
  have e2 := P.cut2.symm.trans (er ▸ Q.cut2)
  have ed : Lib.decDigits n = Lib.decDigits m := congrArg Prod.fst e2
  have eo : orS p.a [45] = orS q.a [45] := congrArg (fun x => x.2.1) e2
  have ek : (n : Int) = m := by
    have h1 := dec_parse P.n4; have h2 := dec_parse Q.n4
    rw [ed, h2] at h1; cases h1; rfl
  have ea : p.a = q.a := by rw [← P.ag, ← Q.ag, eo]
  obtain ⟨pc, pk, pa⟩ := p
  obtain ⟨qc, qk, qa⟩ := q
  have h1 := P.k; have h2 := Q.k
  simp only at ec ea h1 h2
  subst ec ea
  rw [h1, h2, ek]
theorem rpR_ok {s : List UInt8} {p : Pty} (h : Fits s p) : rpR s = (p, 0) := by
  have hx : ∃ p, Fits s p := ⟨p, h⟩
  unfold rpR
  rw [dif_pos hx]
  rw [fits_one (Classical.choose_spec hx) h]
/-- What ReadParty gives. -/
def GiveP (w : World) (r : Pty × Int) (e : Ending) (w' : World) : Prop :=
  e = .returned (.tuple #[.agg #[.string ⟨r.1.c.toArray⟩, .int .i64 r.1.k, .string ⟨r.1.a.toArray⟩], .int .i64 r.2]) ∧ Below w.heap.size w w'
/-- A box of three cells. -/
theorem keepQ {W0 w' : World} {g : Nat} {a b c : Value} {t : TypeId} (hb : Below W0.heap.size W0 w') (h : W0.heap[g]? = some (.cells #[a, b, c] t (0, 0))) :
    w'.heap[g]? = some (.cells #[a, b, c] t (0, 0)) ∧ w'.cell? ⟨g, 0, none⟩ = some a ∧ w'.cell? ⟨g, 1, none⟩ = some b ∧ w'.cell? ⟨g, 2, none⟩ = some c ∧
    w'.frozen? ⟨g, 0, none⟩ = false ∧ w'.frozen? ⟨g, 1, none⟩ = false ∧ w'.frozen? ⟨g, 2, none⟩ = false := by
  have h1 := (hb.block _ (lt_some h)).trans h
  exact ⟨h1, by rw [cell_of_row _ _ _ _ _ _ h1]; rfl, by rw [cell_of_row _ _ _ _ _ _ h1]; rfl, by rw [cell_of_row _ _ _ _ _ _ h1]; rfl, frozen_of_row w' _ 0 _ _ h1, frozen_of_row w' _ 1 _ _ h1, frozen_of_row w' _ 2 _ _ h1⟩
theorem doneQ {w1 : World} {g : Nat} {x y z : Value} {t : TypeId} (h : w1.heap[g]? = some (.cells #[x, y, z] t (0, 0))) (a b c : Value) :
    ∃ W, (((w1.setCell ⟨g, 0, none⟩ a).setCell ⟨g, 1, none⟩ b).setCell ⟨g, 2, none⟩ c) = W ∧
      W.cell? ⟨g, 0, none⟩ = some a ∧ W.cell? ⟨g, 1, none⟩ = some b ∧ W.cell? ⟨g, 2, none⟩ = some c ∧ ∀ (B : Nat) (w : World), B ≤ g → Below B w w1 → Below B w W := by
  refine ⟨_, rfl, ?_⟩
  have h2 : (w1.setCell ⟨g, 0, none⟩ a).heap[g]? = some (.cells #[a, y, z] t (0, 0)) := by
    rw [heap_setCell_same _ _ _ _ _ _ h]; rfl
  have h3 : ((w1.setCell ⟨g, 0, none⟩ a).setCell ⟨g, 1, none⟩ b).heap[g]? = some (.cells #[a, b, z] t (0, 0)) := by
    rw [heap_setCell_same _ _ _ _ _ _ h2]; rfl
  have h4 : (((w1.setCell ⟨g, 0, none⟩ a).setCell ⟨g, 1, none⟩ b).setCell ⟨g, 2, none⟩ c).heap[g]? = some (.cells #[a, b, c] t (0, 0)) := by
    rw [heap_setCell_same _ _ _ _ _ _ h3]; rfl
  refine ⟨?_, ?_, ?_, fun B w hB hb => ((hb.setCell (by simpa using hB) _).setCell (by simpa using hB) _).setCell (by simpa using hB) _⟩ <;>
    (rw [cell_of_row _ _ _ _ _ _ h4]; rfl)

set_option maxRecDepth 100000 in
set_option maxHeartbeats 4000000 in
theorem rparty_i (s : List UInt8) (hl : s.length ≤ 1048576) (w : World) (h : Lib3 w) : Calls Tryd.prog 32 #[.string ⟨s.toArray⟩] w (GiveP w (rpR s)) := by
  have hz : (⟨s.toArray⟩ : ByteArray).size = s.length := rfl
  have o1 := heap_alloc_new w (.cells #[.string ⟨#[]⟩, .int .i64 0, .string ⟨#[]⟩] 35)
  have HB := below_alloc w (.cells #[.string ⟨#[]⟩, .int .i64 0, .string ⟨#[]⟩] 35)
  have C1 := Lib.hid (fun w => cut_i s 47 w hl)
  have L1 := Lib.hid (h.below HB)
  have hc1 := cut_sum s 47
  have HF := Lib.hid (fun (p : Pty) (n : Nat) (P : Parts s p n) => P.cut1)
  have HN := Lib.hid (fun (hn : ¬ ∃ p, Fits s p) => rpR_no hn)
  have HY := Lib.hid (fun (p : Pty) (hp : Fits s p) => rpR_ok hp)
  have HP := Lib.hid (fun (p : Pty) (hp : Fits s p) => fits_parts hp)
  generalize rpR s = r at *
  obtain ⟨⟨c, rest, b1⟩, hcu⟩ : ∃ x, cutL s 47 = x := ⟨_, rfl⟩
  rw [hcu] at C1 hc1 HF
  have C2 := Lib.hid (fun w => cut_i rest 47 w (by simp only at hc1; omega))
  have hc2 := cut_sum rest 47
  obtain ⟨⟨nu, ag, b2⟩, hcu2⟩ : ∃ x, cutL rest 47 = x := ⟨_, rfl⟩
  rw [hcu2] at C2 hc2
  simp only at C1 C2 hc1 hc2
  have PN := Lib.hid (fun w hw => parse_any nu (by omega) w hw)
  have lcn : c.length ≤ 1048576 := by omega
  have lca : c.length + ag.length ≤ 1048576 := by omega
  -- what the parts are if the text fits
  have HX : Hid (∀ (x : Int), (∀ u, Lib.parseIntB 64 nu = .ok u → x = u) → ∀ p, Fits s p → p = ⟨c, x, unag ag⟩) := Lib.hid fun x hx p hp => by
    obtain ⟨n, P⟩ := HP.out p hp
    have e1 := HF.out p n P
    have ec : c = p.c := congrArg Prod.fst e1
    have er : rest = Lib.decDigits n ++ 47 :: orS p.a [45] := congrArg (fun x => x.2.1) e1
    have e2 := hcu2.symm.trans (er ▸ P.cut2)
    have en : nu = Lib.decDigits n := congrArg Prod.fst e2
    have ea : ag = orS p.a [45] := congrArg (fun x => x.2.1) e2
    have hk : x = (n : Int) := hx _ (by rw [en]; exact dec_parse P.n4)
    rw [ec, hk, ea, P.ag, ← P.k]
  clear hcu hcu2 HF HP h hc1 hc2 hz
  go_enter Tryd.func32, Tryd.ntmps32
  go_wp2_with fail
  refine (C1.out _).mono ?_
  rintro e w1 ⟨rfl, c1⟩
  have L2 := Lib.hid (L1.out.below c1)
  have o2 := (keepQ c1 o1).1
  go_wp2_with fail
  refine (C2.out _).mono ?_
  rintro e w2 ⟨rfl, c2⟩
  have L3 := Lib.hid (L2.out.below c2)
  have o3 := (keepQ c2 o2).1
  go_wp2_with fail
  refine (PN.out _ L3.out).mono ?_
  rintro e w3 ⟨x, v, rfl, hx, c3⟩
  have HX2 := Lib.hid (HX.out x hx)
  have o4 := (keepQ c3 o3).1
  have t3 := belowGo (belowGo c1 c2) c3
  have L4 := Lib.hid (L3.out.below c3)
  clear HX C1 C2 PN L1 L2 L3 o1 o2 o3 hx c1 c2 c3
  have UA : Hid (∀ a', unag ag = a' → a'.length ≤ ag.length) := Lib.hid fun a' ha => by
    rw [← ha]; unfold unag; split
    · simp
    · exact Nat.le_refl _
  -- the agent: empty for a minus sign
  rcases Bool.eq_false_or_eq_true (ag == [45]) with hag | hag
  · skip
    have hua : unag ag = (if (ag == [45]) = true then [] else ag) := rfl
    rw [hag] at hua
    rw [if_pos rfl] at hua
    rw [hua] at HX2 UA
    have la := UA.out _ rfl
    clear UA hua
    obtain ⟨P, hP⟩ : ∃ P : Pty, P = ⟨c, x, []⟩ := ⟨_, rfl⟩
    rw [← hP] at HX2
    have hsz : P.sz ≤ 1048576 := by rw [hP]; unfold Pty.sz; simp only; omega
    have HT := Lib.hid (fun w hw => ptext_i P w hsz hw)
    have HPO := Lib.hid (@ptR_ok P)
    have HPN := Lib.hid (@ptR_no P)
    have a3 := below_alloc w3 (.cells #[.string ⟨c.toArray⟩, .int .i64 x, .string ⟨#[]⟩] 35)
    have o5 := (keepQ a3 o4).1
    have d3 := heap_alloc_new w3 (.cells #[.string ⟨c.toArray⟩, .int .i64 x, .string ⟨#[]⟩] 35)
    have LT := Lib.hid ((L4.out.below a3).tab)
    have HT : Hid (∀ w, Tab w → Calls Tryd.prog 30 #[.agg #[.string ⟨c.toArray⟩, .int .i64 x, .string ⟨#[]⟩]] w (Text2 w (ptR P))) := Lib.hid (by
      intro w hw; have := HT.out w hw; rw [hP] at this ⊢; exact this)
    have hok : Hid ((ptR P).2 = 0 ∧ (ptR P).1 = s → Fits s P) := Lib.hid fun ⟨h1, h2⟩ => by
      rcases Bool.eq_false_or_eq_true P.ok with hv | hv
      · rw [HPO.out hv] at h2; exact ⟨hv, h2⟩
      · rw [HPN.out hv] at h1; exact absurd h1 (by decide)
    have hno : Hid (¬ ((ptR P).2 = 0 ∧ (ptR P).1 = s) → ¬ ∃ p, Fits s p) := Lib.hid fun hn ⟨p, hp⟩ => hn (by
      obtain rfl := HX2.out p hp
      rw [HPO.out hp.1]; exact ⟨rfl, hp.2⟩)
    have HYP := Lib.hid (HY.out P)
    have ex : Hid (∀ v : Int, r = (P, v) → r = (⟨c, x, []⟩, v)) := Lib.hid fun v h => by rw [h, hP]
    clear HX2 HPO HPN hP HY
    generalize ptR P = tr at *
    obtain ⟨tx, tc⟩ := tr
    simp only at hok hno
    go_wp2_with fail
    refine (HT.out _ LT.out).mono ?_
    rintro e w4 ⟨rfl, b4⟩
    obtain ⟨o6, r0, r1, r2, s0, s1, s2⟩ := keepQ b4 o5
    obtain ⟨d6, d0, d1, d2, _⟩ := keepQ b4 d3
    have t5 := belowGo HB (belowGo t3 (belowGo a3 b4))
    by_cases hf : tc = 0 ∧ tx = s
    · have E := Lib.hid (ex.out _ (HYP.out (hok.out hf)))
      obtain ⟨rfl, rfl⟩ := hf
      have q1 : (tx == tx) = true := by simp
      clear hok hno HYP HN HT ex LT L4 o4 o5 d3 t3 a3 b4
      go_wp2_with fail
      obtain ⟨W, hW, g0, g1, g2, bW⟩ := doneQ o6 (.string ⟨c.toArray⟩) (.int .i64 x) (.string ⟨#[]⟩)
      rw [hW]
      have b6 := bW w.heap.size w (Nat.le_refl _) t5
      clear hW bW r0 r1 r2 s0 s1 s2 d0 d1 d2
      exact bodyPost_ret (v := .tuple #[.agg #[.string ⟨c.toArray⟩, .int .i64 x, .string ⟨#[]⟩], .int .i64 0]) (by simp [results, Tryd.results32, go_sem, g0, g1, g2]) rfl ⟨by rw [E.out], b6⟩
    · have E := Lib.hid (HN.out (hno.out hf))
      clear hok hno HYP HN HT ex LT L4 o4 o5 d3 t3 a3 b4
      by_cases htc : tc = 0
      · have htx : (tx == s) = false := by rw [beq_eq_false_iff_ne]; exact fun e => hf ⟨htc, e⟩
        subst htc
        clear hf
        go_wp2_with fail
        obtain ⟨W, hW, g0, g1, g2, bW⟩ := doneQ o6 (.string ⟨#[]⟩) (.int .i64 0) (.string ⟨#[]⟩)
        rw [hW]
        have b6 := bW w.heap.size w (Nat.le_refl _) t5
        clear hW bW r0 r1 r2 s0 s1 s2 d0 d1 d2
        exact bodyPost_ret (v := .tuple #[.agg #[.string ⟨#[]⟩, .int .i64 0, .string ⟨#[]⟩], .int .i64 6]) (by simp [results, Tryd.results32, go_sem, g0, g1, g2]) rfl ⟨by rw [E.out], b6⟩
      · have htc2 : (tc != 0) = true := by simpa using htc
        clear hf htc
        go_wp2_with fail
        obtain ⟨W, hW, g0, g1, g2, bW⟩ := doneQ o6 (.string ⟨#[]⟩) (.int .i64 0) (.string ⟨#[]⟩)
        rw [hW]
        have b6 := bW w.heap.size w (Nat.le_refl _) t5
        clear hW bW r0 r1 r2 s0 s1 s2 d0 d1 d2
        exact bodyPost_ret (v := .tuple #[.agg #[.string ⟨#[]⟩, .int .i64 0, .string ⟨#[]⟩], .int .i64 6]) (by simp [results, Tryd.results32, go_sem, g0, g1, g2]) rfl ⟨by rw [E.out], b6⟩
  · skip
    have hua : unag ag = (if (ag == [45]) = true then [] else ag) := rfl
    rw [hag] at hua
    rw [if_neg Bool.false_ne_true] at hua
    rw [hua] at HX2 UA
    have la := UA.out _ rfl
    clear UA hua
    obtain ⟨P, hP⟩ : ∃ P : Pty, P = ⟨c, x, ag⟩ := ⟨_, rfl⟩
    rw [← hP] at HX2
    have hsz : P.sz ≤ 1048576 := by rw [hP]; unfold Pty.sz; simp only; omega
    have HT := Lib.hid (fun w hw => ptext_i P w hsz hw)
    have HPO := Lib.hid (@ptR_ok P)
    have HPN := Lib.hid (@ptR_no P)
    have a3 := below_alloc w3 (.cells #[.string ⟨c.toArray⟩, .int .i64 x, .string ⟨ag.toArray⟩] 35)
    have o5 := (keepQ a3 o4).1
    have d3 := heap_alloc_new w3 (.cells #[.string ⟨c.toArray⟩, .int .i64 x, .string ⟨ag.toArray⟩] 35)
    have LT := Lib.hid ((L4.out.below a3).tab)
    have HT : Hid (∀ w, Tab w → Calls Tryd.prog 30 #[.agg #[.string ⟨c.toArray⟩, .int .i64 x, .string ⟨ag.toArray⟩]] w (Text2 w (ptR P))) := Lib.hid (by
      intro w hw; have := HT.out w hw; rw [hP] at this ⊢; exact this)
    have hok : Hid ((ptR P).2 = 0 ∧ (ptR P).1 = s → Fits s P) := Lib.hid fun ⟨h1, h2⟩ => by
      rcases Bool.eq_false_or_eq_true P.ok with hv | hv
      · rw [HPO.out hv] at h2; exact ⟨hv, h2⟩
      · rw [HPN.out hv] at h1; exact absurd h1 (by decide)
    have hno : Hid (¬ ((ptR P).2 = 0 ∧ (ptR P).1 = s) → ¬ ∃ p, Fits s p) := Lib.hid fun hn ⟨p, hp⟩ => hn (by
      obtain rfl := HX2.out p hp
      rw [HPO.out hp.1]; exact ⟨rfl, hp.2⟩)
    have HYP := Lib.hid (HY.out P)
    have ex : Hid (∀ v : Int, r = (P, v) → r = (⟨c, x, ag⟩, v)) := Lib.hid fun v h => by rw [h, hP]
    clear HX2 HPO HPN hP HY
    generalize ptR P = tr at *
    obtain ⟨tx, tc⟩ := tr
    simp only at hok hno
    go_wp2_with fail
    refine (HT.out _ LT.out).mono ?_
    rintro e w4 ⟨rfl, b4⟩
    obtain ⟨o6, r0, r1, r2, s0, s1, s2⟩ := keepQ b4 o5
    obtain ⟨d6, d0, d1, d2, _⟩ := keepQ b4 d3
    have t5 := belowGo HB (belowGo t3 (belowGo a3 b4))
    by_cases hf : tc = 0 ∧ tx = s
    · have E := Lib.hid (ex.out _ (HYP.out (hok.out hf)))
      obtain ⟨rfl, rfl⟩ := hf
      have q1 : (tx == tx) = true := by simp
      clear hok hno HYP HN HT ex LT L4 o4 o5 d3 t3 a3 b4
      go_wp2_with fail
      obtain ⟨W, hW, g0, g1, g2, bW⟩ := doneQ o6 (.string ⟨c.toArray⟩) (.int .i64 x) (.string ⟨ag.toArray⟩)
      rw [hW]
      have b6 := bW w.heap.size w (Nat.le_refl _) t5
      clear hW bW r0 r1 r2 s0 s1 s2 d0 d1 d2
      exact bodyPost_ret (v := .tuple #[.agg #[.string ⟨c.toArray⟩, .int .i64 x, .string ⟨ag.toArray⟩], .int .i64 0]) (by simp [results, Tryd.results32, go_sem, g0, g1, g2]) rfl ⟨by rw [E.out], b6⟩
    · have E := Lib.hid (HN.out (hno.out hf))
      clear hok hno HYP HN HT ex LT L4 o4 o5 d3 t3 a3 b4
      by_cases htc : tc = 0
      · have htx : (tx == s) = false := by rw [beq_eq_false_iff_ne]; exact fun e => hf ⟨htc, e⟩
        subst htc
        clear hf
        go_wp2_with fail
        obtain ⟨W, hW, g0, g1, g2, bW⟩ := doneQ o6 (.string ⟨#[]⟩) (.int .i64 0) (.string ⟨#[]⟩)
        rw [hW]
        have b6 := bW w.heap.size w (Nat.le_refl _) t5
        clear hW bW r0 r1 r2 s0 s1 s2 d0 d1 d2
        exact bodyPost_ret (v := .tuple #[.agg #[.string ⟨#[]⟩, .int .i64 0, .string ⟨#[]⟩], .int .i64 6]) (by simp [results, Tryd.results32, go_sem, g0, g1, g2]) rfl ⟨by rw [E.out], b6⟩
      · have htc2 : (tc != 0) = true := by simpa using htc
        clear hf htc
        go_wp2_with fail
        obtain ⟨W, hW, g0, g1, g2, bW⟩ := doneQ o6 (.string ⟨#[]⟩) (.int .i64 0) (.string ⟨#[]⟩)
        rw [hW]
        have b6 := bW w.heap.size w (Nat.le_refl _) t5
        clear hW bW r0 r1 r2 s0 s1 s2 d0 d1 d2
        exact bodyPost_ret (v := .tuple #[.agg #[.string ⟨#[]⟩, .int .i64 0, .string ⟨#[]⟩], .int .i64 6]) (by simp [results, Tryd.results32, go_sem, g0, g1, g2]) rfl ⟨by rw [E.out], b6⟩
set_option maxRecDepth 100000 in
set_option maxHeartbeats 4000000 in
theorem rparty_s (s : List UInt8) (hl : s.length ≤ 1048576) (w : World) : Calls Tryd.prog 31 #[.string ⟨s.toArray⟩] w (GiveP w (rpR s)) := by
  have o1 := heap_alloc_new w (.cells #[.string ⟨#[]⟩, .int .i64 0, .string ⟨#[]⟩] 35)
  have HB := below_alloc w (.cells #[.string ⟨#[]⟩, .int .i64 0, .string ⟨#[]⟩] 35)
  have HS := Lib.hid (fun w => splits_s s hl w)
  have hsl := sps_len s []
  have HN := Lib.hid (fun (hn : ¬ ∃ p, Fits s p) => rpR_no hn)
  have HY := Lib.hid (fun (p : Pty) (hp : Fits s p) => rpR_ok hp)
  have HP := Lib.hid (fun (p : Pty) (hp : Fits s p) => fits_parts hp)
  have hmem := Lib.hid (sps_mem s [])
  generalize rpR s = r at *
  obtain ⟨ws, hws⟩ : ∃ ws, sps [] s = ws := ⟨_, rfl⟩
  by_cases h3 : ws.length = 3
  · obtain ⟨a, b, c, rfl⟩ : ∃ a b c, ws = [a, b, c] := by
      match ws, h3 with
      | [a, b, c], _ => exact ⟨a, b, c, rfl⟩
    rw [hws] at HS hmem
    have la : a.length ≤ 1048576 := by have := hmem.out a (by simp); simp at this; omega
    have lb : b.length ≤ 1048576 := by have := hmem.out b (by simp); simp at this; omega
    have lc : c.length ≤ 1048576 := by have := hmem.out c (by simp); simp at this; omega
    have HX : Hid (∀ p, Fits s p → (valR b).2 = true ∧ p = ⟨a, (valR b).1, unag c⟩) := Lib.hid fun p hp => by
      obtain ⟨n, P⟩ := HP.out p hp
      have e := hws.symm.trans P.words
      injection e with e1 e
      injection e with e2 e
      injection e with e3 _
      have ev := dec_val P.n4
      rw [e1, e2, e3, ev, P.ag]
      exact ⟨rfl, by rw [← P.k]⟩
    have HV := Lib.hid (fun w => val_s b lb w)
    generalize valR b = vb at *
    obtain ⟨x, okv⟩ := vb
    simp only at HX HV
    have e3 : ((([a, b, c] : List (List UInt8)).length : Int) != 3) = false := by simp
    clear hws h3 hsl hmem HP lb
    go_enter Tryd.func31, Tryd.ntmps31
    go_wp2_with fail
    refine (HS.out _).mono ?_
    rintro e w1 ⟨A, d, rfl, ho, b1⟩
    obtain ⟨g, rfl, hg, hcell⟩ := own_cellsS ho (by simp)
    have m0 : w1.cell? ⟨g, 0, none⟩ = some (.string ⟨a.toArray⟩) := hcell 0 _ rfl
    have m1 : w1.cell? ⟨g, 1, none⟩ = some (.string ⟨b.toArray⟩) := hcell 1 _ rfl
    have m2 : w1.cell? ⟨g, 2, none⟩ = some (.string ⟨c.toArray⟩) := hcell 2 _ rfl
    have o2 := (keepQ b1 o1).1
    have t1 := b1
    clear hcell ho b1 o1 HS
    go_wp2_with fail
    refine (HV.out _).mono ?_
    rintro e w2 ⟨rfl, b2⟩
    have n0 := (b2.cell (p := ⟨g, 0, none⟩) hg).trans m0
    have n2 := (b2.cell (p := ⟨g, 2, none⟩) hg).trans m2
    have o4 := (keepQ b2 o2).1
    have t3 := belowGo t1 b2
    clear m0 m1 m2 o2 b2 t1 HV hg
    have UA : Hid (∀ a', unag c = a' → a'.length ≤ 1048576) := Lib.hid fun a' ha => by
      rw [← ha]; unfold unag; split
      · simp
      · exact lc
    rcases Bool.eq_false_or_eq_true (c == [45]) with hag | hag
    · skip
      have hua : unag c = (if (c == [45]) = true then [] else c) := rfl
      rw [hag] at hua
      rw [if_pos rfl] at hua
      rw [hua] at HX UA
      have lan := UA.out _ rfl
      clear UA hua
      obtain ⟨P, hP⟩ : ∃ P : Pty, P = ⟨a, x, []⟩ := ⟨_, rfl⟩
      rw [← hP] at HX
      have hPc : P.c.length ≤ 9223372036854775807 := by rw [hP]; simp only; omega
      have hPa : P.a.length ≤ 9223372036854775807 := by rw [hP]; simp only; omega
      have HV : Hid (∀ w, Calls Tryd.prog 52 #[.agg #[.string ⟨a.toArray⟩, .int .i64 x, .string ⟨#[]⟩]] w (Gives w (.bool P.ok))) := Lib.hid (by
        intro w; have := pvalid_s P w hPc hPa; rw [hP] at this ⊢; exact this)
      have HT : Hid (P.ok = true → ∀ w, Calls Tryd.prog 59 #[.agg #[.string ⟨a.toArray⟩, .int .i64 x, .string ⟨#[]⟩]] w (Gives1 w (ptext P))) := Lib.hid (by
        intro hv w; have := ltext5_s P w hv; rw [hP] at this ⊢; exact this)
      have a3 := below_alloc w2 (.cells #[.string ⟨a.toArray⟩, .int .i64 x, .string ⟨#[]⟩] 35)
      have o5 := (keepQ a3 o4).1
      have d3 := heap_alloc_new w2 (.cells #[.string ⟨a.toArray⟩, .int .i64 x, .string ⟨#[]⟩] 35)
      have HYP := Lib.hid (fun h1 h2 => HY.out P ⟨h1, h2⟩)
      have HNN : Hid (¬ (okv = true ∧ P.ok = true ∧ ptext P = s) → r = (⟨[], 0, []⟩, 6)) := Lib.hid fun hn => HN.out fun ⟨p, hp⟩ => hn (by
        obtain ⟨h1, rfl⟩ := HX.out p hp
        exact ⟨h1, hp.1, hp.2⟩)
      have ex : Hid (∀ v : Int, r = (P, v) → r = (⟨a, x, []⟩, v)) := Lib.hid fun v h => by rw [h, hP]
      clear HX hP HY HN hPc hPa
      cases okv with
      | false =>
        have E := Lib.hid (HNN.out (by simp))
        obtain ⟨o6, r0, r1, r2, s0, s1, s2⟩ := keepQ (Below.refl _ _) o5
        obtain ⟨d6, d0, d1, d2, _⟩ := keepQ (Below.refl _ _) d3
        have t5 := belowGo HB (belowGo t3 a3)
        clear HYP HNN HV HT ex o4 o5 d3 t3 a3
        go_wp2_with fail
        obtain ⟨W, hW, g0, g1, g2, bW⟩ := doneQ o6 (.string ⟨#[]⟩) (.int .i64 0) (.string ⟨#[]⟩)
        rw [hW]
        have b6 := bW w.heap.size w (Nat.le_refl _) t5
        clear hW bW r0 r1 r2 s0 s1 s2 d0 d1 d2
        exact bodyPost_ret (v := .tuple #[.agg #[.string ⟨#[]⟩, .int .i64 0, .string ⟨#[]⟩], .int .i64 6]) (by simp [results, Tryd.results31, go_sem, g0, g1, g2]) rfl ⟨by rw [E.out], b6⟩
      | true =>
        rcases Bool.eq_false_or_eq_true P.ok with hv | hv
        · rw [hv] at HV
          have HT2 := Lib.hid (HT.out hv)
          have HYP2 := Lib.hid (HYP.out hv)
          have HNN2 : Hid (ptext P ≠ s → r = (⟨[], 0, []⟩, 6)) := Lib.hid fun hn => HNN.out fun h => hn h.2.2
          clear HT HYP HNN hv
          generalize ptext P = tx at *
          go_wp2_with fail
          refine (HV.out _).mono ?_
          rintro e w4 ⟨rfl, b4⟩
          have o6 := (keepQ b4 o5).1
          obtain ⟨d6, d0, d1, d2, _⟩ := keepQ b4 d3
          go_wp2_with fail
          refine (HT2.out _).mono ?_
          rintro e w5 ⟨rfl, b5⟩
          obtain ⟨o7, r0, r1, r2, s0, s1, s2⟩ := keepQ b5 o6
          clear d0 d1 d2
          obtain ⟨d7, d0, d1, d2, _⟩ := keepQ b5 d6
          have t5 := belowGo HB (belowGo t3 (belowGo a3 (belowGo b4 b5)))
          by_cases hts : tx = s
          · have E := Lib.hid (ex.out _ (HYP2.out hts))
            have e5 : (tx == s) = true := by simp [hts]
            have e6 : (tx != s) = false := by simp [hts]
            clear hts HYP2 HNN2 HT2 HV ex b4 b5 o4 o5 o6 d3 d6 t3 a3
            go_wp2_with fail
            obtain ⟨W, hW, g0, g1, g2, bW⟩ := doneQ o7 (.string ⟨a.toArray⟩) (.int .i64 x) (.string ⟨#[]⟩)
            rw [hW]
            have b6 := bW w.heap.size w (Nat.le_refl _) t5
            clear hW bW r0 r1 r2 s0 s1 s2 d0 d1 d2
            exact bodyPost_ret (v := .tuple #[.agg #[.string ⟨a.toArray⟩, .int .i64 x, .string ⟨#[]⟩], .int .i64 0]) (by simp [results, Tryd.results31, go_sem, g0, g1, g2]) rfl ⟨by rw [E.out], b6⟩
          · have E := Lib.hid (HNN2.out hts)
            have e5 : (tx == s) = false := by simp [hts]
            have e6 : (tx != s) = true := by simp [hts]
            clear hts HYP2 HNN2 HT2 HV ex b4 b5 o4 o5 o6 d3 d6 t3 a3
            go_wp2_with fail
            obtain ⟨W, hW, g0, g1, g2, bW⟩ := doneQ o7 (.string ⟨#[]⟩) (.int .i64 0) (.string ⟨#[]⟩)
            rw [hW]
            have b6 := bW w.heap.size w (Nat.le_refl _) t5
            clear hW bW r0 r1 r2 s0 s1 s2 d0 d1 d2
            exact bodyPost_ret (v := .tuple #[.agg #[.string ⟨#[]⟩, .int .i64 0, .string ⟨#[]⟩], .int .i64 6]) (by simp [results, Tryd.results31, go_sem, g0, g1, g2]) rfl ⟨by rw [E.out], b6⟩
        · rw [hv] at HV
          have E := Lib.hid (HNN.out (by rw [hv]; simp))
          clear HT HYP HNN hv
          go_wp2_with fail
          refine (HV.out _).mono ?_
          rintro e w4 ⟨rfl, b4⟩
          obtain ⟨o6, r0, r1, r2, s0, s1, s2⟩ := keepQ b4 o5
          obtain ⟨d6, d0, d1, d2, _⟩ := keepQ b4 d3
          have t5 := belowGo HB (belowGo t3 (belowGo a3 b4))
          clear HV ex b4 o4 o5 d3 t3 a3
          go_wp2_with fail
          obtain ⟨W, hW, g0, g1, g2, bW⟩ := doneQ o6 (.string ⟨#[]⟩) (.int .i64 0) (.string ⟨#[]⟩)
          rw [hW]
          have b6 := bW w.heap.size w (Nat.le_refl _) t5
          clear hW bW r0 r1 r2 s0 s1 s2 d0 d1 d2
          exact bodyPost_ret (v := .tuple #[.agg #[.string ⟨#[]⟩, .int .i64 0, .string ⟨#[]⟩], .int .i64 6]) (by simp [results, Tryd.results31, go_sem, g0, g1, g2]) rfl ⟨by rw [E.out], b6⟩
    · skip
      have hua : unag c = (if (c == [45]) = true then [] else c) := rfl
      rw [hag] at hua
      rw [if_neg Bool.false_ne_true] at hua
      rw [hua] at HX UA
      have lan := UA.out _ rfl
      clear UA hua
      obtain ⟨P, hP⟩ : ∃ P : Pty, P = ⟨a, x, c⟩ := ⟨_, rfl⟩
      rw [← hP] at HX
      have hPc : P.c.length ≤ 9223372036854775807 := by rw [hP]; simp only; omega
      have hPa : P.a.length ≤ 9223372036854775807 := by rw [hP]; simp only; omega
      have HV : Hid (∀ w, Calls Tryd.prog 52 #[.agg #[.string ⟨a.toArray⟩, .int .i64 x, .string ⟨c.toArray⟩]] w (Gives w (.bool P.ok))) := Lib.hid (by
        intro w; have := pvalid_s P w hPc hPa; rw [hP] at this ⊢; exact this)
      have HT : Hid (P.ok = true → ∀ w, Calls Tryd.prog 59 #[.agg #[.string ⟨a.toArray⟩, .int .i64 x, .string ⟨c.toArray⟩]] w (Gives1 w (ptext P))) := Lib.hid (by
        intro hv w; have := ltext5_s P w hv; rw [hP] at this ⊢; exact this)
      have a3 := below_alloc w2 (.cells #[.string ⟨a.toArray⟩, .int .i64 x, .string ⟨c.toArray⟩] 35)
      have o5 := (keepQ a3 o4).1
      have d3 := heap_alloc_new w2 (.cells #[.string ⟨a.toArray⟩, .int .i64 x, .string ⟨c.toArray⟩] 35)
      have HYP := Lib.hid (fun h1 h2 => HY.out P ⟨h1, h2⟩)
      have HNN : Hid (¬ (okv = true ∧ P.ok = true ∧ ptext P = s) → r = (⟨[], 0, []⟩, 6)) := Lib.hid fun hn => HN.out fun ⟨p, hp⟩ => hn (by
        obtain ⟨h1, rfl⟩ := HX.out p hp
        exact ⟨h1, hp.1, hp.2⟩)
      have ex : Hid (∀ v : Int, r = (P, v) → r = (⟨a, x, c⟩, v)) := Lib.hid fun v h => by rw [h, hP]
      clear HX hP HY HN hPc hPa
      cases okv with
      | false =>
        have E := Lib.hid (HNN.out (by simp))
        obtain ⟨o6, r0, r1, r2, s0, s1, s2⟩ := keepQ (Below.refl _ _) o5
        obtain ⟨d6, d0, d1, d2, _⟩ := keepQ (Below.refl _ _) d3
        have t5 := belowGo HB (belowGo t3 a3)
        clear HYP HNN HV HT ex o4 o5 d3 t3 a3
        go_wp2_with fail
        obtain ⟨W, hW, g0, g1, g2, bW⟩ := doneQ o6 (.string ⟨#[]⟩) (.int .i64 0) (.string ⟨#[]⟩)
        rw [hW]
        have b6 := bW w.heap.size w (Nat.le_refl _) t5
        clear hW bW r0 r1 r2 s0 s1 s2 d0 d1 d2
        exact bodyPost_ret (v := .tuple #[.agg #[.string ⟨#[]⟩, .int .i64 0, .string ⟨#[]⟩], .int .i64 6]) (by simp [results, Tryd.results31, go_sem, g0, g1, g2]) rfl ⟨by rw [E.out], b6⟩
      | true =>
        rcases Bool.eq_false_or_eq_true P.ok with hv | hv
        · rw [hv] at HV
          have HT2 := Lib.hid (HT.out hv)
          have HYP2 := Lib.hid (HYP.out hv)
          have HNN2 : Hid (ptext P ≠ s → r = (⟨[], 0, []⟩, 6)) := Lib.hid fun hn => HNN.out fun h => hn h.2.2
          clear HT HYP HNN hv
          generalize ptext P = tx at *
          go_wp2_with fail
          refine (HV.out _).mono ?_
          rintro e w4 ⟨rfl, b4⟩
          have o6 := (keepQ b4 o5).1
          obtain ⟨d6, d0, d1, d2, _⟩ := keepQ b4 d3
          go_wp2_with fail
          refine (HT2.out _).mono ?_
          rintro e w5 ⟨rfl, b5⟩
          obtain ⟨o7, r0, r1, r2, s0, s1, s2⟩ := keepQ b5 o6
          clear d0 d1 d2
          obtain ⟨d7, d0, d1, d2, _⟩ := keepQ b5 d6
          have t5 := belowGo HB (belowGo t3 (belowGo a3 (belowGo b4 b5)))
          by_cases hts : tx = s
          · have E := Lib.hid (ex.out _ (HYP2.out hts))
            have e5 : (tx == s) = true := by simp [hts]
            have e6 : (tx != s) = false := by simp [hts]
            clear hts HYP2 HNN2 HT2 HV ex b4 b5 o4 o5 o6 d3 d6 t3 a3
            go_wp2_with fail
            obtain ⟨W, hW, g0, g1, g2, bW⟩ := doneQ o7 (.string ⟨a.toArray⟩) (.int .i64 x) (.string ⟨c.toArray⟩)
            rw [hW]
            have b6 := bW w.heap.size w (Nat.le_refl _) t5
            clear hW bW r0 r1 r2 s0 s1 s2 d0 d1 d2
            exact bodyPost_ret (v := .tuple #[.agg #[.string ⟨a.toArray⟩, .int .i64 x, .string ⟨c.toArray⟩], .int .i64 0]) (by simp [results, Tryd.results31, go_sem, g0, g1, g2]) rfl ⟨by rw [E.out], b6⟩
          · have E := Lib.hid (HNN2.out hts)
            have e5 : (tx == s) = false := by simp [hts]
            have e6 : (tx != s) = true := by simp [hts]
            clear hts HYP2 HNN2 HT2 HV ex b4 b5 o4 o5 o6 d3 d6 t3 a3
            go_wp2_with fail
            obtain ⟨W, hW, g0, g1, g2, bW⟩ := doneQ o7 (.string ⟨#[]⟩) (.int .i64 0) (.string ⟨#[]⟩)
            rw [hW]
            have b6 := bW w.heap.size w (Nat.le_refl _) t5
            clear hW bW r0 r1 r2 s0 s1 s2 d0 d1 d2
            exact bodyPost_ret (v := .tuple #[.agg #[.string ⟨#[]⟩, .int .i64 0, .string ⟨#[]⟩], .int .i64 6]) (by simp [results, Tryd.results31, go_sem, g0, g1, g2]) rfl ⟨by rw [E.out], b6⟩
        · rw [hv] at HV
          have E := Lib.hid (HNN.out (by rw [hv]; simp))
          clear HT HYP HNN hv
          go_wp2_with fail
          refine (HV.out _).mono ?_
          rintro e w4 ⟨rfl, b4⟩
          obtain ⟨o6, r0, r1, r2, s0, s1, s2⟩ := keepQ b4 o5
          obtain ⟨d6, d0, d1, d2, _⟩ := keepQ b4 d3
          have t5 := belowGo HB (belowGo t3 (belowGo a3 b4))
          clear HV ex b4 o4 o5 d3 t3 a3
          go_wp2_with fail
          obtain ⟨W, hW, g0, g1, g2, bW⟩ := doneQ o6 (.string ⟨#[]⟩) (.int .i64 0) (.string ⟨#[]⟩)
          rw [hW]
          have b6 := bW w.heap.size w (Nat.le_refl _) t5
          clear hW bW r0 r1 r2 s0 s1 s2 d0 d1 d2
          exact bodyPost_ret (v := .tuple #[.agg #[.string ⟨#[]⟩, .int .i64 0, .string ⟨#[]⟩], .int .i64 6]) (by simp [results, Tryd.results31, go_sem, g0, g1, g2]) rfl ⟨by rw [E.out], b6⟩
  · have E := Lib.hid (HN.out (by
      rintro ⟨p, hp⟩
      obtain ⟨n, P⟩ := HP.out p hp
      exact h3 (by rw [← hws, P.words]; rfl)))
    rw [hws] at HS hsl
    have e3 : ((ws.length : Int) != 3) = true := by
      have : ((ws.length : Int) == 3) = false := by rw [beq_eq_false_iff_ne]; omega
      simp [bne, this]
    clear hws h3 hmem HP HN HY
    go_enter Tryd.func31, Tryd.ntmps31
    go_wp2_with fail
    refine (HS.out _).mono ?_
    rintro e w1 ⟨A, d, rfl, ho, b1⟩
    obtain ⟨o2, r0, r1, r2, s0, s1, s2⟩ := keepQ b1 o1
    have t1 := belowGo HB b1
    clear ho o1 HS
    go_wp2_with fail
    obtain ⟨W, hW, g0, g1, g2, bW⟩ := doneQ o2 (.string ⟨#[]⟩) (.int .i64 0) (.string ⟨#[]⟩)
    rw [hW]
    have b6 := bW w.heap.size w (Nat.le_refl _) t1
    clear hW o2 r0 r1 r2 s0 s1 s2 bW
    exact bodyPost_ret (v := .tuple #[.agg #[.string ⟨#[]⟩, .int .i64 0, .string ⟨#[]⟩], .int .i64 6]) (by simp [results, Tryd.results31, go_sem, g0, g1, g2]) rfl ⟨by rw [E.out], b6⟩
end Go.Proofs.YtjgagiigpijaiaaDoor
