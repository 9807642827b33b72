import Derived.Test.YtjcklmhgjdmjoaaGreatDra
namespace Go.Proofs.YtjcklmhgjdmjoaaGreat
open Go.ChangeShapes Go.WideShapes Go.ChangeAt Go.RowKit
set_option linter.unusedVariables false
theorem ClsO.keptD {w w' : World} {lo n c g : Nat} {A : Option Addr} {cs : List Cls} (h : ClsO w lo A n c cs) (hg : w.grownBy w' (some g)) (hn : (Value.slice A n c).ownBlock ≠ some g) : ClsO w' lo A n c cs :=
 World.ownsRow.kept h hg (.inr hn)
set_option maxRecDepth 100000 in
theorem wpList_append_clD {ops : Array Oper} {rest : List Oper} {o : Oper} {a : Act} {Q : Exit -> Act -> World -> Prop} (w : World) (hgd : o.guard = none) (s x : Operand)
  (ho : o.op = .call { callee := .builtin .append, args := #[s, x], argTypes := #[24, 24] }) (base : Nat) (v : Value) (hs : a.eval s = v) (hown : w.ownsRow base 47 7 v 0 []) (b off c : Nat) (l : List Cls)
  (hx : a.eval x = .slice (some ⟨b, off, none⟩) l.length c) (hR : ClsR w (some ⟨b, off, none⟩) l) (h0 : 0 < l.length) (hn : l.length <= 1000) (hb : base <= w.heap.size)
  (h : ∀ g q W', ClsO W' base (some ⟨g, 0, none⟩) l.length q l -> Below base w W' -> wpList Tryz.prog ops Q rest (a.put o.dst (.slice (some ⟨g, 0, none⟩) l.length q)) W') : wpList Tryz.prog ops Q (o :: rest) a w := by
 obtain ⟨i0, hi, hz0, hz1, hz2⟩ := info_parts clsInfo
 refine wpList_append_own _ hgd s x 24 ho base 47 i0 _ 7 72 Tryz.underlying24 hi hz0 hz1 hz2 rfl (by decide) _ 0 _ hs hown ⟨b, off, none⟩ l.length c (l.flatMap Cls.cells) hx (flat_len Cls.cells 7 (fun _ => rfl) l)
  (fun j u hu => by
   have hp : 0 < (l.flatMap Cls.cells).length := by have := (List.getElem?_eq_some_iff.1 hu).1; omega
   obtain ⟨b', off', e, _, hc⟩ := hR hp
   simp only [Option.some.injEq, Addr.mk.injEq, and_true] at e
   obtain ⟨rfl, rfl⟩ := e
   rw [show ((⟨b, off, none⟩ : Addr).add j) = ⟨b, off + j, none⟩ from by unfold Addr.add; split <;> simp_all]
   exact hc j u hu)
  (fun u hu => by
   obtain ⟨y, _, hy⟩ := List.mem_flatMap.1 hu
   unfold Cls.cells at hy
   simp only [List.mem_cons, List.not_mem_nil, or_false] at hy
   rcases hy with rfl | rfl | rfl | rfl | rfl | rfl | rfl <;> simp [Value.oneCell'])
  (by unfold maxLen; omega) (by omega) hb ?_
 intro v' w3 g2 g3 g4
 rw [Nat.zero_add] at g2
 obtain ⟨O, q, rfl⟩ := own_form g2
 have g5 : ClsO w3 base O l.length q l := by simpa [ClsO] using g2
 obtain ⟨g, rfl⟩ := cls_own_someD g5 h0
 exact h g q w3 g5 ((Below.refl _ _).grown g3 hb (fun k hk => (hown.lt k hk).1))
def NewTwo (w : World) (e : Ending) (w' : World) : Prop :=
 ∃ B1 d1 ps B2 d2 qs, e = .returned (.tuple #[.slice B1 (List.length ps) d1, .slice B2 (List.length qs) d2]) /\ ps.length <= 30 /\ qs.length <= 30 /\ (∀ p ∈ ps, p.sz <= 100) /\ (∀ p ∈ qs, p.sz <= 100) /\ ClsO w' w.heap.size B1 ps.length d1 ps /\ ClsO w' w.heap.size B2 qs.length d2 qs /\ Below w.heap.size w w'
set_option maxRecDepth 100000 in
set_option maxHeartbeats 8000000 in
theorem drawTwo (A : Option Addr) (c : Nat) (bs : List Int) (w : World) (h : Code0 w A bs) :
  Calls Tryz.prog 29 #[.slice A bs.length c] w (NewTwo w) := by
 go_enter Tryz.func29, Tryz.ntmps29
 go_wp2_with fail
 refine (code_from A c bs _ h).mono ?_
 rintro e w1 ⟨g, rfl, s1, b1⟩
 have hg := s1.lt
 have hg0 := s1.1
 clear h
 go_wp2_with fail
 refine (draw_c g _ A c bs _ s1).mono ?_
 rintro e w2 ⟨B1, d1, ps, rfl, hp30, o1, htp, s2, g2⟩
 go_wp2_with fail
 refine (draw_c g _ A c bs _ s2).mono ?_
 rintro e w3 ⟨B2, d2, qs, rfl, hq30, o2, htq, s3, g3⟩
 have o1' := own_srcC o1 g3 hg
 have G3 := g2.trans g3
 have hs2 := g2.size
 have hs3 := g3.size
 clear s1 s2 g2 g3
 by_cases h0 : ps.length = 0
 ·
  obtain rfl : ps = [] := List.eq_nil_of_length_eq_zero h0
  have dn : decide ((0 : Int) < (([] : List Cls).length : Int)) = false := rfl
  have hb := src_below b1 G3 hg0
  go_wp2_with fail
  go_ret2
  exact ⟨B1, d1, [], B2, d2, qs, rfl, hp30, hq30, htp, htq, ClsO.mono o1' b1.size, o2.mono (by have := b1.size; omega), hb⟩
 ·
  have dn : decide ((0 : Int) < (ps.length : Int)) = true := decide_eq_true (by omega)
  go_wp2_with fail
  refine (next_any g 2 _ A c bs _ s3 (by omega)).mono ?_
  rintro e w4 ⟨r, rfl, r0, r1, s4, g4⟩
  have o4 := own_srcC o1' g4 hg
  have o2' := own_srcC o2 g4 (by omega)
  have G4 := G3.trans g4
  have hs4 := g4.size
  clear s3 g4 o1' G3
  by_cases hr : r = 0
  ·
   subst hr
   obtain ⟨b, rfl⟩ := cls_own_someD (n := ps.length) o4 (by omega)
   have H0 : (w4.alloc (Obj.cells #[] 47)).ownsRow w4.heap.size 47 7 (.slice (some ⟨w4.heap.size, 0, none⟩) 0 0) 0 [] := World.ownsRow_made w4 #[] 0 (Nat.le_refl _) (by decide) (by simp)
   have HA : ClsO (w4.alloc (Obj.cells #[] 47)) w1.heap.size (some ⟨b, 0, none⟩) ps.length d1 ps := ClsO.below o4 (below_alloc _ _)
   have HR := HA.row
   have HO4 := Lib.hid o4
   have hsz : w4.heap.size <= (w4.alloc (Obj.cells #[] 47)).heap.size := by simp
   have HS := s4.alloc (Obj.cells #[] 47)
   have hb4 : Below w.heap.size w w4 := src_below b1 G4 hg0
   have G5 : Below w.heap.size w (w4.alloc (Obj.cells #[] 47)) := hb4.trans ((below_alloc _ _).mono hb4.size)
   clear s4 o4 o2' G4 dn hb4
   go_wp2_with (at_builtin; refine wpList_append_clD _ rfl (.tmp 22) (.tmp 23) rfl w4.heap.size _ rfl H0 b 0 d1 ps rfl HR (by omega) (by omega) hsz ?_; intro gB qB w5 oB bB; have A5 : ClsO w5 w1.heap.size (some ⟨b, 0, none⟩) ps.length d1 ps := ClsO.below HO4.out ((below_alloc w4 _).trans bB); have s5 := HS.keep (bB.mono (by omega)); have b5 := G5.trans (bB.mono (by have := b1.size; omega)); have hgB := (World.ownsRow.lt oB gB rfl).1; have hob := (World.ownsRow.lt HO4.out b rfl).2; clear H0 HA HR HS G5 bB HO4)
   go_wp2_with fail
   refine (next_any g _ _ A c bs _ s5 (by omega)).mono ?_
   rintro e w6 ⟨k', rfl, k0, k1, s6, g6⟩
   obtain ⟨k, rfl⟩ := Int.eq_ofNat_of_zero_le k0
   have hk : k < ps.length := by omega
   have O6 := own_srcC oB g6 (by omega)
   have A6 := own_srcC A5 g6 hg
   have b6 := src_below b5 g6 hg0
   clear s5 oB A5 b5 g6 k0 k1
   go_wp2_with fail
   refine (next_any g 3 _ A c bs _ s6 (by omega)).mono ?_
   rintro e w7 ⟨r3, rfl, q0, q1, s7, g7⟩
   have O7 := own_srcC O6 g7 (by omega)
   have A7 := own_srcC A6 g7 hg
   have b7 := src_below b6 g7 hg0
   clear s6 O6 A6 b6 g7
   have hlB : w.heap.size <= w4.heap.size := by have := b1.size; omega
   rcases (by omega : r3 = 0 ∨ r3 = 1 ∨ 2 <= r3) with rfl | rfl | h3
   ·
    skip
    go_wp2_with fail
    refine (next_any g 3 _ A c bs _ s7 (by omega)).mono ?_
    rintro e w8 ⟨r5, rfl, u0, u1, s8, g8⟩
    have O8 := own_srcC O7 g8 (by omega)
    have A8 := own_srcC A7 g8 hg
    have b8 := src_below b7 g8 hg0
    clear O7 A7 b7 s7 g8
    have hyl := flat_len Cls.cells 7 (fun _ => rfl) ps
    obtain ⟨x, hx⟩ : ∃ x, ps[k]? = some x := ⟨_, List.getElem?_eq_getElem hk⟩
    obtain ⟨v2, z2⟩ := own_at O8 (k * 7 + 2) (by omega)
    have f2 := World.ownsRow.frozenAt O8 (k * 7 + 2)
    obtain ⟨P4, Q4⟩ := ClsO.set1 (j := 2) (v := .int .i64 r5) (x' := ⟨x.c, x.k, r5, x.v, x.r, x.e, x.t⟩) O8 hx (by decide) rfl
    have hxm := htp x (List.mem_of_getElem? hx)
    have P5 := Lib.hid P4
    have A5 : Hid (ClsO (w8.setCell ⟨gB, k * 7 + 2, none⟩ (.int .i64 r5)) w1.heap.size (some ⟨b, 0, none⟩) ps.length d1 ps) := Lib.hid (ClsO.keptD A8 Q4 (fun e => absurd (show b = gB from by simpa [Value.ownBlock] using e) (by omega)))
    have B5 : Hid (Below w.heap.size w (w8.setCell ⟨gB, k * 7 + 2, none⟩ (.int .i64 r5))) := Lib.hid (b8.setCell (p := ⟨gB, k * 7 + 2, none⟩) (by have := b1.size; show w.heap.size <= gB; omega) _)
    have T5 : Hid (∀ p ∈ ps.set k ⟨x.c, x.k, r5, x.v, x.r, x.e, x.t⟩, p.sz <= 100) := Lib.hid (fun p hp => by
     rcases List.mem_or_eq_of_mem_set hp with h | rfl
     ·
      exact htp p h
     ·
      unfold Cls.sz at hxm ⊢; simp only [] at *; omega)
    clear P4 Q4 O8 A8 b8 hx hxm s8
    go_wp2_with fail
    go_ret2
    exact ⟨some ⟨b, 0, none⟩, d1, ps, some ⟨gB, 0, none⟩, qB, ps.set k ⟨x.c, x.k, r5, x.v, x.r, x.e, x.t⟩, by rw [List.length_set]; rfl, hp30, by rw [List.length_set]; exact hp30, htp, T5.out, A5.out.mono b1.size, by rw [List.length_set]; exact P5.out.mono hlB, B5.out⟩
   ·
    have hyl7 := flat_len Cls.cells 7 (fun _ => rfl) ps
    obtain ⟨x0, hx0⟩ : ∃ x, ps[k]? = some x := ⟨_, List.getElem?_eq_getElem hk⟩
    have c6 := (World.ownsRow.cellAt O7 (k * 7 + 6) (by omega)).trans (flat_at Cls.cells 7 (fun _ => rfl) ps k 6 x0 hx0 (by decide))
    simp only [Cls.cells, List.getElem?_cons_zero, List.getElem?_cons_succ] at c6
    clear hx0 hyl7
    by_cases ht : x0.t = []
    ·
     have hts : (⟨x0.t.toArray⟩ : ByteArray) = ⟨#[]⟩ := by rw [ht]
     rw [hts] at c6
     clear ht hts
     go_wp2_with fail
     refine (next_any g 3 _ A c bs _ s7 (by omega)).mono ?_
     rintro e w8 ⟨r5, rfl, u0, u1, s8, g8⟩
     have O8 := own_srcC O7 g8 (by omega)
     have A8 := own_srcC A7 g8 hg
     have b8 := src_below b7 g8 hg0
     clear O7 A7 b7 s7 g8
     have hyl := flat_len Cls.cells 7 (fun _ => rfl) ps
     obtain ⟨x, hx⟩ : ∃ x, ps[k]? = some x := ⟨_, List.getElem?_eq_getElem hk⟩
     obtain ⟨v5, z5⟩ := own_at O8 (k * 7 + 5) (by omega)
     have f5 := World.ownsRow.frozenAt O8 (k * 7 + 5)
     obtain ⟨P4, Q4⟩ := ClsO.set1 (j := 5) (v := .int .i64 r5) (x' := ⟨x.c, x.k, x.p, x.v, x.r, r5, x.t⟩) O8 hx (by decide) rfl
     have hxm := htp x (List.mem_of_getElem? hx)
     have P5 := Lib.hid P4
     have A5 : Hid (ClsO (w8.setCell ⟨gB, k * 7 + 5, none⟩ (.int .i64 r5)) w1.heap.size (some ⟨b, 0, none⟩) ps.length d1 ps) := Lib.hid (ClsO.keptD A8 Q4 (fun e => absurd (show b = gB from by simpa [Value.ownBlock] using e) (by omega)))
     have B5 : Hid (Below w.heap.size w (w8.setCell ⟨gB, k * 7 + 5, none⟩ (.int .i64 r5))) := Lib.hid (b8.setCell (p := ⟨gB, k * 7 + 5, none⟩) (by have := b1.size; show w.heap.size <= gB; omega) _)
     have T5 : Hid (∀ p ∈ ps.set k ⟨x.c, x.k, x.p, x.v, x.r, r5, x.t⟩, p.sz <= 100) := Lib.hid (fun p hp => by
      rcases List.mem_or_eq_of_mem_set hp with h | rfl
      ·
       exact htp p h
      ·
       unfold Cls.sz at hxm ⊢; simp only [] at *; omega)
     clear P4 Q4 O8 A8 b8 hx hxm s8
     go_wp2_with fail
     go_ret2
     exact ⟨some ⟨b, 0, none⟩, d1, ps, some ⟨gB, 0, none⟩, qB, ps.set k ⟨x.c, x.k, x.p, x.v, x.r, r5, x.t⟩, by rw [List.length_set]; rfl, hp30, by rw [List.length_set]; exact hp30, htp, T5.out, A5.out.mono b1.size, by rw [List.length_set]; exact P5.out.mono hlB, B5.out⟩
    ·
     have hts : x0.t.isEmpty = false := by simp [ht]
     clear ht
     have HT := Lib.hid htp
     go_wp2_with fail
     go_ret2
     exact ⟨some ⟨b, 0, none⟩, d1, ps, some ⟨gB, 0, none⟩, qB, ps, rfl, hp30, hp30, htp, htp, ClsO.mono A7 b1.size, ClsO.mono O7 (by have := b1.size; omega), b7⟩
   ·
    have e0 : (r3 == 0) = false := beq_eq_false_iff_ne.2 (by omega)
    have e1 : (r3 == 1) = false := beq_eq_false_iff_ne.2 (by omega)
    clear hk
    have HT := Lib.hid htp
    go_wp2_with fail
    go_ret2
    exact ⟨some ⟨b, 0, none⟩, d1, ps, some ⟨gB, 0, none⟩, qB, ps, rfl, hp30, hp30, htp, htp, ClsO.mono A7 b1.size, ClsO.mono O7 (by have := b1.size; omega), b7⟩
  ·
   have n0 : (r == 0) = false := beq_eq_false_iff_ne.2 hr
   have hb := src_below b1 G4 hg0
   clear dn
   go_wp2_with fail
   go_ret2
   exact ⟨B1, d1, ps, B2, d2, qs, rfl, hp30, hq30, htp, htq, ClsO.mono o4 b1.size, ClsO.mono o2' (by have := b1.size; omega), hb⟩
set_option maxRecDepth 100000 in
set_option maxHeartbeats 1000000 in
theorem drawSD (A : Option Addr) (c : Nat) (bs : List Int) (w : World) (h : Code0 w A bs) :
  Calls Tryz.prog 5 #[.slice A bs.length c] w (NewTwo w) := by
 have HC := Lib.hid h
 clear h
 go_enter Tryz.func5, Tryz.ntmps5
 go_wp2_with fail
 refine (drawTwo A c bs _ HC.out).mono ?_
 rintro e w1 ⟨B1, d1, ps, B2, d2, qs, rfl, R⟩
 have HR := Lib.hid R
 clear R
 go_wp2_with fail
 go_ret2
 exact ⟨B1, d1, ps, B2, d2, qs, rfl, HR.out⟩
end Go.Proofs.YtjcklmhgjdmjoaaGreat
