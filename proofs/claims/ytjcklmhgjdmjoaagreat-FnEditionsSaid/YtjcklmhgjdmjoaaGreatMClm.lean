import Derived.Test.YtjcklmhgjdmjoaaGreatMCll
import Derived.Test.YtjcklmhgjdmjoaaGreatMEvl
import Derived.Test.YtjcklmhgjdmjoaaGreatMRate
import Derived.Test.YtjcklmhgjdmjoaaGreatMCopy
namespace Go.Proofs.YtjcklmhgjdmjoaaGreat
set_option linter.unusedVariables false
theorem end_match {p : Cls} (h : endB p = true) (e : Evt) : matchB p e = true := by
 unfold endB at h
 simp only [Bool.and_eq_true, beq_iff_eq] at h
 unfold matchB meetB
 simp [h.1, h.2.1, h.2.2.1, h.2.2.2.1]
def firstC (ps : List Cls) (k : Nat) (e : Evt) : Nat := k + (ps.drop k).findIdx (fun p => matchB p e)
theorem first_here {ps : List Cls} {k : Nat} {p : Cls} {e : Evt} (hp : ps[k]? = some p) (h : matchB p e = true) : firstC ps k e = k := by
 unfold firstC
 rw [drop_of hp, List.findIdx_cons]; simp [h]
theorem first_next {ps : List Cls} {k : Nat} {p : Cls} {e : Evt} (hp : ps[k]? = some p) (h : matchB p e = false) : firstC ps k e = firstC ps (k + 1) e := by
 unfold firstC
 rw [drop_of hp, List.findIdx_cons]; simp [h]; omega
theorem first_ge (ps : List Cls) (k : Nat) (e : Evt) : k <= firstC ps k e := by unfold firstC; omega
theorem RB.last {ps : List Cls} (h : RB ps) : ∃ p, ps[ps.length - 1]? = some p /\ endB p = true := by
 have := h.lo
 have hp : ps[ps.length - 1]? = some (ps[ps.length - 1]'(by omega)) := List.getElem?_eq_getElem (by omega)
 exact ⟨_, hp, h.fin _ hp⟩
theorem RB.more {ps : List Cls} (h : RB ps) {k : Nat} {p : Cls} {e : Evt} (hp : ps[k]? = some p) (hm : matchB p e = false) : k + 1 < ps.length := by
 obtain ⟨q, hq, he⟩ := h.last
 have hk := (List.getElem?_eq_some_iff.1 hp).1
 rcases Nat.lt_or_ge (k + 1) ps.length with h1 | h1
 ·
  exact h1
 ·
  exfalso
  rw [show ps.length - 1 = k by omega, hp] at hq
  obtain rfl := Option.some.inj hq
  rw [end_match he e] at hm; cases hm
theorem first_lt {ps : List Cls} (h : RB ps) (e : Evt) : ∀ (n k : Nat), k < ps.length -> ps.length <= n + k -> firstC ps k e < ps.length
 | 0, k, hk, hn => by omega
 | n + 1, k, hk, hn => by
  have hp : ps[k]? = some ps[k] := List.getElem?_eq_getElem hk
  rcases Bool.eq_false_or_eq_true (matchB ps[k] e) with hm | hm
  ·
   rw [first_here hp hm]; exact hk
  ·
   rw [first_next hp hm]; exact first_lt h e n (k + 1) (h.more hp hm) (by omega)
theorem RB.first {ps : List Cls} (h : RB ps) {k : Nat} (hk : k < ps.length) (e : Evt) : firstC ps k e < ps.length := first_lt h e ps.length k hk (by omega)
def chainC (ps : List Cls) (e : Evt) : Nat -> Nat -> List Int
 | 0, _ => []
 | n + 1, k => (firstC ps k e : Int) :: (match ps[firstC ps k e]? with
  | some p => if p.e == 3 then chainC ps e n (fndIC ps p.t).toNat else []
  | none => [])
theorem chain_stop {ps : List Cls} {e : Evt} {n k : Nat} {p : Cls} (hp : ps[firstC ps k e]? = some p) (h : (p.e == 3) = false) : chainC ps e (n + 1) k = [(firstC ps k e : Int)] := by
 rw [chainC, hp]; simp [h]
theorem chain_go {ps : List Cls} {e : Evt} {n k : Nat} {p : Cls} (hp : ps[firstC ps k e]? = some p) (h : (p.e == 3) = true) : chainC ps e (n + 1) k = (firstC ps k e : Int) :: chainC ps e n (fndIC ps p.t).toNat := by
 rw [chainC, hp]; simp [h]
def chainL (ps : List Cls) (e : Evt) : List Int := chainC ps e 13 0
theorem chain_len (ps : List Cls) (e : Evt) : ∀ n k, (chainC ps e n k).length <= n
 | 0, _ => by simp [chainC]
 | n + 1, k => by
  rw [chainC, List.length_cons]
  split
  ·
   split
   ·
    rename_i p _ _; have := chain_len ps e n (fndIC ps p.t).toNat; omega
   ·
    simp
  ·
   simp
end Go.Proofs.YtjcklmhgjdmjoaaGreat

namespace Go.Proofs.YtjcklmhgjdmjoaaGreat
open Go.ChangeShapes Go.WideShapes Go.ChangeAt Go.RowKit
set_option linter.unusedVariables false
set_option maxRecDepth 100000 in
set_option maxHeartbeats 4000000 in
theorem first_s (A : Option Addr) (c k : Nat) (ps : List Cls) (q : Evt) (w : World) (h : CTbl w A ps) (hrb : RB ps) (hk : k < ps.length) :
  Calls Tryz.prog 99 #[.slice A ps.length c, .int .i64 (k : Int), .agg #[.int .i64 q.d, .int .i64 q.k, .string ⟨q.c.toArray⟩, .int .i64 q.a, .bool q.p, .bool q.v, .bool q.r]] w (Gives w (.int .i64 (firstC ps k q : Int))) := by
 have HR := Lib.hid h.row
 have HB := Lib.hid hrb
 have h12 := hrb.hi
 have kb := KeepE.new w q
 clear h hrb
 go_enter Tryz.func99, Tryz.ntmps99
 go_wp2_with fail
 go_loopw [1] (fun i wr => ∃ j : Nat, j < ps.length /\ i = .int .i64 (j : Int) /\ Hid (firstC ps j q = firstC ps k q) /\ KeepE w q wr) (fun i _ => ps.length - (intOf i).toNat)
 case atStart => exact ⟨k, hk, rfl, Lib.hid rfl, kb⟩
 case round =>
  clear kb hk
  obtain ⟨j, hj, rfl, hf, kb⟩ := hrel
  obtain ⟨b, off, p, rfl, hl, hp, h4⟩ := (HR.out.below kb.bel).at hj
  have k0 := Bel.drew wr
  have HV := Lib.hid (fun y : Sub (Bel wr) => (matches_s p q y.w).mono fun e w' h => (⟨h.1, ⟨w', Bel.step y h.2⟩, rfl⟩ : e = .returned (.bool (matchB p q)) /\ ∃ z : Sub (Bel wr), w' = z.w))
  have q0 : ∀ y : Sub (Bel wr), y.w.cell? ⟨b, off + j * 7, none⟩ = some (.string ⟨p.c.toArray⟩) := fun y => (h4.below hl y.h).c0
  have q1 : ∀ y : Sub (Bel wr), y.w.cell? ⟨b, off + j * 7 + 1, none⟩ = some (.int .i64 p.k) := fun y => (h4.below hl y.h).c1
  have q2 : ∀ y : Sub (Bel wr), y.w.cell? ⟨b, off + j * 7 + 2, none⟩ = some (.int .i64 p.p) := fun y => (h4.below hl y.h).c2
  have q3 : ∀ y : Sub (Bel wr), y.w.cell? ⟨b, off + j * 7 + 3, none⟩ = some (.int .i64 p.v) := fun y => (h4.below hl y.h).c3
  have q4 : ∀ y : Sub (Bel wr), y.w.cell? ⟨b, off + j * 7 + 4, none⟩ = some (.int .i64 p.r) := fun y => (h4.below hl y.h).c4
  have q5 : ∀ y : Sub (Bel wr), y.w.cell? ⟨b, off + j * 7 + 5, none⟩ = some (.int .i64 p.e) := fun y => (h4.below hl y.h).c5
  have q6 : ∀ y : Sub (Bel wr), y.w.cell? ⟨b, off + j * 7 + 6, none⟩ = some (.string ⟨p.t.toArray⟩) := fun y => (h4.below hl y.h).c6
  have r0 : ∀ y : Sub (Bel wr), y.w.cell? ⟨w.heap.size, 0, none⟩ = some (.int .i64 q.d) := fun y => (kb.step y.h).cells.c0
  have r1 : ∀ y : Sub (Bel wr), y.w.cell? ⟨w.heap.size, 1, none⟩ = some (.int .i64 q.k) := fun y => (kb.step y.h).cells.c1
  have r2 : ∀ y : Sub (Bel wr), y.w.cell? ⟨w.heap.size, 2, none⟩ = some (.string ⟨q.c.toArray⟩) := fun y => (kb.step y.h).cells.c2
  have r3 : ∀ y : Sub (Bel wr), y.w.cell? ⟨w.heap.size, 3, none⟩ = some (.int .i64 q.a) := fun y => (kb.step y.h).cells.c3
  have r4 : ∀ y : Sub (Bel wr), y.w.cell? ⟨w.heap.size, 4, none⟩ = some (.bool q.p) := fun y => (kb.step y.h).cells.c4
  have r5 : ∀ y : Sub (Bel wr), y.w.cell? ⟨w.heap.size, 5, none⟩ = some (.bool q.v) := fun y => (kb.step y.h).cells.c5
  have r6 : ∀ y : Sub (Bel wr), y.w.cell? ⟨w.heap.size, 6, none⟩ = some (.bool q.r) := fun y => (kb.step y.h).cells.c6
  have HK := Lib.hid (fun y : Sub (Bel wr) => kb.step y.h)
  rcases Bool.eq_false_or_eq_true (matchB p q) with hm | hm
  ·
   have E : Hid (firstC ps k q = j) := Lib.hid (by rw [<- hf.out, first_here hp.out hm])
   rw [hm] at HV
   clear hf hp h4 hm kb
   go_wp2_with fail
   refine region_held (Bel wr) (by kernel_rfl) (by kernel_rfl) (Bel.drew wr) ?_
   repeat (go_big_quiet_step ((first | rfl | (go_at_call 109; exact HV.out _))))
   refine wpQuiet_nil ?_
   rintro _ ⟨y, rfl⟩
   go_wp2_with fail
   go_ret
   exact ⟨by rw [E.out] <;> rfl, (HK.out y).bel⟩
  ·
   have hj2 := HB.out.more hp.out hm
   have E : Hid (firstC ps (j + 1) q = firstC ps k q) := Lib.hid (by rw [<- hf.out, first_next hp.out hm])
   rw [hm] at HV
   clear hf hp h4 hm kb
   go_wp2_with fail
   refine region_held (Bel wr) (by kernel_rfl) (by kernel_rfl) (Bel.drew wr) ?_
   repeat (go_big_quiet_step ((first | rfl | (go_at_call 109; exact HV.out _))))
   refine wpQuiet_nil ?_
   rintro _ ⟨y, rfl⟩
   go_wp2_with fail
   go_roundw
   case rel => exact ⟨j + 1, hj2, by go_num, E, HK.out y⟩
   case measure => simp [intOf]; omega
theorem KeepE.push {w0 W w' : World} {p : Evt} (k : KeepE w0 p W) (b : Below (w0.heap.size + 1) W w') : KeepE w0 p w' := ⟨(b.block _ (Nat.lt_succ_self _)).trans k.a, k.bel.trans (b.mono (Nat.le_succ _))⟩
theorem oi_monoC {w : World} {base base' n c : Nat} {A : Option Addr} {xs : List Int} (h : Oi w base A n c xs) (hb : base' <= base) : Oi w base' A n c xs := by
 refine ⟨h.1, h.2.imp id ?_⟩
 rintro ⟨g, cap, cur, h1, h2, h3⟩
 exact ⟨g, cap, cur, h1, by omega, h3⟩
set_option maxRecDepth 100000 in
set_option maxHeartbeats 8000000 in
theorem chain_s (A : Option Addr) (c : Nat) (ps : List Cls) (q : Evt) (w : World) (h : CTbl w A ps) (hrb : RB ps) :
  Calls Tryz.prog 82 #[.slice A ps.length c, .agg #[.int .i64 q.d, .int .i64 q.k, .string ⟨q.c.toArray⟩, .int .i64 q.a, .bool q.p, .bool q.v, .bool q.r]] w (NewInts w (chainL ps q)) := by
 obtain ⟨i0, hi, hz0, hz1, hz2⟩ := info_parts intInfo
 have HT := Lib.hid h
 have HB := Lib.hid hrb
 have h12 := hrb.hi
 have h1 := hrb.lo
 have kb := (KeepE.new w q).step (below_alloc _ (.cells #[] 2))
 have H0 : Oi ((w.alloc (.cells #[.int .i64 q.d, .int .i64 q.k, .string ⟨q.c.toArray⟩, .int .i64 q.a, .bool q.p, .bool q.v, .bool q.r] 30)).alloc (.cells #[] 2)) (w.heap.size + 1) (some ⟨w.heap.size + 1, 0, none⟩) 0 0 [] := by
  have := World.ownsRow_made (w.alloc (.cells #[.int .i64 q.d, .int .i64 q.k, .string ⟨q.c.toArray⟩, .int .i64 q.a, .bool q.p, .bool q.v, .bool q.r] 30)) (e := 2) (size := 1) (base := w.heap.size + 1) #[] 0 (by simp) (by decide) (by simp)
  simpa [Oi] using this
 clear h hrb
 go_enter Tryz.func82, Tryz.ntmps82
 go_wp2_with fail
 go_loopw [5, 6] (fun v i wr => ∃ (n k : Nat) (B : Option Addr) (d : Nat) (xs : List Int), v = .slice B xs.length d /\ i = .int .i64 (k : Int) /\ k < ps.length /\ 13 <= n + k /\ xs.length <= k /\ Hid (xs ++ chainC ps q n k = chainL ps q) /\ Oi wr (w.heap.size + 1) B xs.length d xs /\ KeepE w q wr) (fun _ i _ => ps.length - (intOf i).toNat)
 case atStart => exact ⟨13, 0, _, 0, [], rfl, rfl, by omega, by omega, by simp, Lib.hid rfl, H0, kb⟩
 case round =>
  clear H0 kb
  obtain ⟨n, k, B, d, xs, rfl, rfl, hk, hn, hx, hc, hown, kb⟩ := hrel
  obtain ⟨n, rfl⟩ : ∃ m, n = m + 1 := ⟨n - 1, by omega⟩
  have c0 := kb.cells.c0; have c1 := kb.cells.c1; have c2 := kb.cells.c2; have c3 := kb.cells.c3; have c4 := kb.cells.c4; have c5 := kb.cells.c5; have c6 := kb.cells.c6
  have HF := Lib.hid (first_s A c k ps q wr (HT.out.below kb.bel) HB.out hk)
  have hj := HB.out.first hk q
  have hge := first_ge ps k q
  have HS := Lib.hid (fun (p : Cls) hp h => @chain_stop ps q n k p hp h)
  have HG := Lib.hid (fun (p : Cls) hp h => @chain_go ps q n k p hp h)
  generalize firstC ps k q = j at *
  obtain ⟨b, off, p, rfl, hl, hp, h4⟩ := HT.out.row.at hj
  have HC := Lib.hid (fun W (hb : Below w.heap.size w W) => h4.below hl hb)
  clear h4
  rcases Bool.eq_false_or_eq_true (p.e == 3) with he | he
  ·
   have hbd : (j : Int) < fndIC ps p.t := HB.out.to j p hp.out (by simpa using he)
   have hbd2 := (fndIC_bd ps p.t).2
   have E := Lib.hid (HG.out p hp.out he)
   have hne : (p.e != 3) = false := by simp only [bne, he]; rfl
   obtain ⟨m, hm⟩ : ∃ m : Nat, fndIC ps p.t = (m : Int) := ⟨(fndIC ps p.t).toNat, by omega⟩
   have EC : Hid ((xs ++ [(j : Int)]) ++ chainC ps q n m = chainL ps q) := Lib.hid (by
    rw [<- hc.out, E.out, hm]; simp)
   have HFN := Lib.hid (fun W (hb : Below w.heap.size w W) => find_sC (some ⟨b, off, none⟩) c ps p.t W (HT.out.row.below hb) (by omega))
   rw [hm] at HFN hbd hbd2
   clear hm E HG HS hc hp he hl
   go_wp2_with fail
   refine HF.out.mono ?_
   rintro e w1 ⟨rfl, b1⟩
   have own1 : Oi w1 (w.heap.size + 1) B xs.length d xs := hown.below b1
   have kb1 := kb.step b1
   have hsz : w.heap.size + 1 <= w1.heap.size := lt_some kb1.a
   clear kb b1 hown c0 c1 c2 c3 c4 c5 c6 HF
   go_wp2_with (first
    | (at_builtin; refine wpList_push _ rfl (.tmp 12) (.tmp 14) 53 rfl (w.heap.size + 1) 2 i0 _ 1 8 Tryz.underlying53 hi hz0 hz1 hz2 rfl (by decide) (.slice B xs.length d) xs.length _ rfl own1 [.int .i64 (j : Int)] rfl (by simp [Value.oneCell']) rfl (by unfold maxLen; omega) (by omega) hsz ?_; intro v' w' hown' hb'; have kb2 := kb1.push hb'; have e5 := (HC.out _ kb2.bel).c5; have e6 := (HC.out _ kb2.bel).c6)
    | (go_at_call 40; refine (HFN.out _ kb2.bel).mono ?_; rintro e w2 ⟨rfl, rfl⟩))
   obtain ⟨B', d', rfl⟩ := own_form hown'
   have own2 : Oi w' (w.heap.size + 1) B' (xs ++ [(j : Int)]).length d' (xs ++ [(j : Int)]) := by simpa [Oi] using hown'
   go_roundw
   case rel => exact ⟨n, m, B', d', xs ++ [(j : Int)], by simp, rfl, by omega, by omega, by simp; omega, EC, own2, kb2⟩
   case measure => simp [intOf]; omega
  ·
   have E := Lib.hid (HS.out p hp.out he)
   have hne : (p.e != 3) = true := by simp only [bne, he]; rfl
   have EC : Hid (xs ++ [(j : Int)] = chainL ps q) := Lib.hid (by rw [<- hc.out, E.out])
   clear E HG HS hc hp he hl
   go_wp2_with fail
   refine HF.out.mono ?_
   rintro e w1 ⟨rfl, b1⟩
   have own1 : Oi w1 (w.heap.size + 1) B xs.length d xs := hown.below b1
   have kb1 := kb.step b1
   have hsz : w.heap.size + 1 <= w1.heap.size := lt_some kb1.a
   clear kb b1 hown c0 c1 c2 c3 c4 c5 c6 HF
   go_wp2_with (at_builtin; refine wpList_push _ rfl (.tmp 12) (.tmp 14) 53 rfl (w.heap.size + 1) 2 i0 _ 1 8 Tryz.underlying53 hi hz0 hz1 hz2 rfl (by decide) (.slice B xs.length d) xs.length _ rfl own1 [.int .i64 (j : Int)] rfl (by simp [Value.oneCell']) rfl (by unfold maxLen; omega) (by omega) hsz ?_; intro v' w' hown' hb'; have kb2 := kb1.push hb'; have e5 := (HC.out _ kb2.bel).c5)
   obtain ⟨B', d', rfl⟩ := own_form hown'
   have own2 : Oi w' (w.heap.size + 1) B' (xs ++ [(j : Int)]).length d' (xs ++ [(j : Int)]) := by simpa [Oi] using hown'
   go_ret
   unfold NewInts
   rw [<- EC.out]
   exact ⟨B', d', by simp, oi_monoC own2 (Nat.le_succ _), kb2.bel⟩
end Go.Proofs.YtjcklmhgjdmjoaaGreat

