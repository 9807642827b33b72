/- impl.VoyageText. (by gen_vti.py) -/
import Derived.Test.YtklhcofonkmiiaaGreatDoorMVtx
import Derived.Test.YtklhcofonkmiiaaGreatDoorRgk
namespace Go.Proofs.YtklhcofonkmiiaaGreatDoor
open Go.ChangeShapes Go.WideShapes Go.ChangeAt Go.RowKit
set_option linter.unusedVariables false

def frVt (us : Nat → Value) : Act := { tmps := #[us 0, us 1, us 2, us 3, us 4, us 5, us 6, us 7, us 8, us 9, us 10, us 11, us 12, us 13, us 14, us 15, us 16, us 17, us 18, us 19, us 20, us 21, us 22, us 23, us 24, us 25, us 26, us 27, us 28, us 29, us 30, us 31, us 32, us 33, us 34], defers := [] }
theorem frVt_of {x0 x1 x2 x3 x4 x5 x6 x7 x8 x9 x10 x11 x12 x13 x14 x15 x16 x17 x18 x19 x20 x21 x22 x23 x24 x25 x26 x27 x28 x29 x30 x31 x32 x33 x34 : Value} : ({ tmps := #[x0, x1, x2, x3, x4, x5, x6, x7, x8, x9, x10, x11, x12, x13, x14, x15, x16, x17, x18, x19, x20, x21, x22, x23, x24, x25, x26, x27, x28, x29, x30, x31, x32, x33, x34], defers := [] } : Act) = frVt (fun k => #[x0, x1, x2, x3, x4, x5, x6, x7, x8, x9, x10, x11, x12, x13, x14, x15, x16, x17, x18, x19, x20, x21, x22, x23, x24, x25, x26, x27, x28, x29, x30, x31, x32, x33, x34].getD k undef) := rfl
/-- The condition on which operations have come up. -/
structure InvVt (b6 h10 : Nat) (A0 V11 : Value) (n k : Nat) (v0 : Value) (ws : List (List UInt8)) (t1 t2 t3 t4 X1 X2 : List UInt8) (p : Sto) (lo : Nat) (w : World) (d : Array Bool) (us : Nat → Value) (W : World) : Prop where
  u0 : us 0 = A0
  u1 : us 1 = undef
  u5 : us 5 = undef
  u33 : us 33 = undef
  u34 : us 34 = undef
  u7 : us 7 = A0
  u8 : us 8 = .bool true
  u9 : us 9 = .bool false
  u10 : us 10 = .slice (some ⟨h10, 0, none⟩) 0 0
  u2 : us 2 = .string ⟨#[]⟩
  u3 : us 3 = .int .i64 0
  u6 : us 6 = .pointer (some ⟨b6, 0, none⟩)
  u11 : us 11 = A0
  u12 : us 12 = .int .i64 (n : Int)
  u13 : us 13 = .int .i64 (k : Int)
  u4 : d.getD 15 false = false → us 4 = v0
  bel : d.getD 14 false = false → Below w.heap.size w W
  belo : Below lo w W
  allR : d.getD 14 false = true → ∀ k, k < 14 → d.getD k false = true
  allL : d.getD 15 false = true → ∀ k, k < 15 → d.getD k false = true
  o0 : d.getD 0 false = true → us 17 = v0
  o1 : d.getD 1 false = true → us 18 = .pointer (some ⟨b6, 0, none⟩)
  p2 : d.getD 2 false = true → d.getD 1 false = true
  o2 : d.getD 2 false = true → us 19 = .string ⟨p.p.toArray⟩
  p3 : d.getD 3 false = true → d.getD 2 false = true
  o3 : d.getD 3 false = true → us 20 = .string ⟨t1.toArray⟩
  o4 : d.getD 4 false = true → us 21 = .pointer (some ⟨b6, 1, none⟩)
  p5 : d.getD 5 false = true → d.getD 4 false = true
  o5 : d.getD 5 false = true → us 22 = .int .i64 p.i
  p6 : d.getD 6 false = true → d.getD 5 false = true
  o6 : d.getD 6 false = true → us 23 = .string ⟨X1.toArray⟩
  p7 : d.getD 7 false = true → d.getD 3 false = true ∧ d.getD 6 false = true
  o7 : d.getD 7 false = true → us 24 = .string ⟨t2.toArray⟩
  p8 : d.getD 8 false = true → d.getD 7 false = true
  o8 : d.getD 8 false = true → us 25 = .string ⟨t3.toArray⟩
  o9 : d.getD 9 false = true → us 26 = .pointer (some ⟨b6, 2, none⟩)
  p10 : d.getD 10 false = true → d.getD 9 false = true
  o10 : d.getD 10 false = true → us 27 = .int .i64 p.o
  p11 : d.getD 11 false = true → d.getD 10 false = true
  o11 : d.getD 11 false = true → us 28 = .string ⟨X2.toArray⟩
  p12 : d.getD 12 false = true → d.getD 8 false = true ∧ d.getD 11 false = true
  o12 : d.getD 12 false = true → us 29 = .string ⟨t4.toArray⟩
  p13 : d.getD 13 false = true → d.getD 12 false = true
  o13 : d.getD 13 false = true → d.getD 14 false = false → ∃ B, us 30 = .slice (some ⟨B, 0, none⟩) 1 1 ∧ W.heap[B]? = some (.cells #[.string ⟨t4.toArray⟩] 9 (0, 0)) ∧ w.heap.size ≤ B
  o14 : d.getD 14 false = true → RowG lo (us 31) (ws ++ [t4]) W
  o15 : d.getD 15 false = true → us 4 = us 31

theorem made0t (w : World) (base : Nat) (e : TypeId) (size : Nat) (hb : base ≤ w.heap.size) : (w.alloc (Obj.cells #[] e)).ownsRow base e size (.slice (some ⟨w.heap.size, 0, none⟩) 0 0) 0 [] :=
  World.ownsRow_made w #[] 0 hb (by decide) (by simp)
theorem joinV (O : Option Addr) (q : Nat) (ps : List Sto) (ws : List (List UInt8)) (base : Nat) (w : World) (h : Ost w base O ws.length q ws) (hw : ws = ps.map stxt) (h0 : 0 < ps.length) (h10 : ps.length ≤ 10) (hl : (vtxt ps).length ≤ 1000) :
    Calls Tryz.prog 20 #[.slice O ws.length q, .string ⟨#[32]⟩] w (Gives1 w (vtxt ps)) := by
  have hwl : ws.length = ps.length := by rw [hw, List.length_map]
  have hcq : ws.length ≤ q := by
    rcases h.2 with ⟨e, e2⟩ | ⟨g, cap, cur, e, _, _, hle, _⟩
    · injection e with _ e3 _; omega
    · injection e with e1 e2 e3; omega
  obtain ⟨g, rfl⟩ : ∃ g, O = some ⟨g, 0, none⟩ := by
    rcases h.2 with ⟨e, e2⟩ | ⟨g, cap, cur, e, _⟩
    · injection e with _ e3 _; omega
    · injection e with e1 _ _; exact ⟨g, e1⟩
  have hlt := (h.lt g rfl).2
  have hj : Lib.join ((ws.map (fun l => (⟨l.toArray⟩ : ByteArray))).map (·.data.toList)) (⟨#[32]⟩ : ByteArray).data.toList = vtxt ps := by
    unfold vtxt
    rw [List.map_map, ← hw]
    congr 1
    exact (List.map_congr_left (fun x _ => rfl)).trans (List.map_id _)
  have H := Tryz.strings_Join g 0 q (ws.map (fun l => (⟨l.toArray⟩ : ByteArray))) ⟨#[32]⟩ w
    (fun j x hx => by
      rw [List.getElem?_map] at hx
      obtain ⟨l, hl, rfl⟩ : ∃ l, ws[j]? = some l ∧ (⟨l.toArray⟩ : ByteArray) = x := by
        cases hh : ws[j]? with
        | none => rw [hh] at hx; cases hx
        | some l => rw [hh] at hx; exact ⟨l, rfl, Option.some.inj hx⟩
      have := h.cells (g := g) rfl j (encStr l) (by rw [List.getElem?_map, hl]; rfl)
      rw [show ((⟨g, 0, none⟩ : Addr).add j) = ⟨g, 0 + j, none⟩ from by unfold Addr.add; split <;> simp_all] at this
      exact this)
    hlt (by rw [List.length_map]; omega) (by rw [List.length_map]; exact hcq) (by rw [hj]; omega)
  rw [hj, List.length_map] at H
  exact H
set_option maxRecDepth 100000 in
set_option maxHeartbeats 16000000 in
theorem vtext_i (A : Option Addr) (c : Nat) (ps : List Sto) (w : World) (h : VTblC w A c ps) (ht : Tab w) :
    Calls Tryz.prog 7 #[.slice A ps.length c] w (Text2 w (voyT ps)) := by
  have HR := Lib.hid h.row
  have h := h.tbl
  rcases Bool.eq_false_or_eq_true (voyB ps) with hv | hv
  · have E := Lib.hid (voyT_ok hv)
    obtain ⟨hn1, hn10⟩ := (voy_iff.1 hv).2
    have HOK := Lib.hid (fun (k : Nat) (r : Sto) (hr : ps[k]? = some r) => vok (voy_iff.1 hv).1 hr)
    have HLE : Hid ((vtxt ps).length ≤ 1000) := Lib.hid (by have := vtxt_le (voy_all_ok hv); omega)
    have HV := Lib.hid (voyI_q (c := c) h hv)
    generalize voyT ps = r at *
    clear h hv
    go_enter Tryz.func7, Tryz.ntmps7
    go_wp2_with fail
    refine HV.out.mono ?_
    rintro e w1 ⟨rfl, b1⟩
    have HO := Lib.hid (made0t w1 w1.heap.size 9 1 (Nat.le_refl _))
    have HB1 := Lib.hid (below_alloc w1 (Obj.cells #[] 9))
    clear HV
    go_wp2_with fail
    go_loopw [4, 13] (fun v i wr => ∃ (k : Nat) (O : Option Addr) (q : Nat) (ws : List (List UInt8)), k ≤ ps.length ∧ i = .int .i64 k ∧ v = .slice O ws.length q ∧ ws.length ≤ 10 ∧ Ost wr w1.heap.size O ws.length q ws ∧ Hid (ws = (ps.take k).map stxt) ∧ Below w1.heap.size w1 wr) (fun _ i _ => ps.length - (intOf i).toNat)
    case atStart => exact ⟨0, some ⟨w1.heap.size, 0, none⟩, 0, [], Nat.zero_le _, rfl, rfl, by simp, HO.out, Lib.hid rfl, HB1.out⟩
    case round =>
      clear HO HB1
      obtain ⟨k, O, q, ws, hk, rfl, rfl, hws10, hown, hw, hb⟩ := hrel
      by_cases hlt : k < ps.length
      · obtain ⟨b, off, p, rfl, hl, hp, h4⟩ := (HR.out.below (belowGo b1 hb)).at hlt
        have hok := HOK.out k p hp.out
        obtain ⟨hpc, ⟨i0, i1⟩, ⟨o0, o1⟩, hio⟩ := sok hok
        have lc : p.p.length ≤ 6 := (pcode_iff.1 hpc).1.2
        have c0 := h4.c0; have c1 := h4.c1; have c2 := h4.c2
        have HF1 := Lib.hid (fun W hT => dayText_i p.i W hT (inr_iff.2 ⟨i0, i1⟩))
        have HF2 := Lib.hid (fun W hT => dayText_i p.o W hT (inr_iff.2 ⟨o0, o1⟩))
        have ld1 := dayT_le p.i
        have ld2 := dayT_le p.o
        have HW : Hid (ws ++ [stxt p] = (ps.take (k + 1)).map stxt) := Lib.hid (by rw [snoc_of hp.out, List.map_append, hw.out]; rfl)
        have HWL : Hid (ws.length = k) := Lib.hid (by rw [hw.out, List.length_map, List.length_take]; omega)
        have hwk : ws.length ≤ k := by rw [HWL.out]; exact Nat.le_refl _
        have ET : Hid (stxt p = p.p ++ 64 :: (dayT p.i ++ 126 :: dayT p.o)) := Lib.hid rfl
        have kb := KeepV.new wr p
        have HBW := Lib.hid (belowGo hb kb.bel)
        have hT := ht.below (belowGo b1 HBW.out)
        have hrow : RowG w1.heap.size (.slice O ws.length q) ws (wr.alloc (.cells #[.string ⟨p.p.toArray⟩, .int .i64 p.i, .int .i64 p.o] 40)) := ⟨O, q, rfl, own_below hown kb.bel⟩
        have hlo := HBW.out.size
        generalize dayT p.i = X1 at *
        generalize dayT p.o = X2 at *
        obtain ⟨T, hTT⟩ : ∃ T, T = stxt p := ⟨_, rfl⟩
        rw [← hTT] at HW ET
        clear hTT
        have s1 := str_app p.p [64]
        have s2 := str_app (p.p ++ [64]) X1
        have s3 := str_app (p.p ++ [64] ++ X1) [126]
        have s4 := str_app (p.p ++ [64] ++ X1 ++ [126]) X2
        have EQ : p.p ++ [64] ++ X1 ++ [126] ++ X2 = T := by rw [ET.out]; simp
        rw [EQ] at s4
        have l1 : (p.p ++ [64]).length ≤ 100 := by simp; omega
        have l2 : (p.p ++ [64] ++ X1).length ≤ 100 := by simp; omega
        have l3 : (p.p ++ [64] ++ X1 ++ [126]).length ≤ 100 := by simp; omega
        obtain ⟨t3, h3⟩ : ∃ t, t = p.p ++ [64] ++ X1 ++ [126] := ⟨_, rfl⟩
        rw [← h3] at s3 s4 l3
        obtain ⟨t2, h2⟩ : ∃ t, t = p.p ++ [64] ++ X1 := ⟨_, rfl⟩
        rw [← h2] at s2 s3 l2
        obtain ⟨t1, h1⟩ : ∃ t, t = p.p ++ [64] := ⟨_, rfl⟩
        rw [← h1] at s1 s2 l1
        clear h1 h2 h3 EQ ET
        have s1 : (⟨p.p.toArray⟩ ++ ⟨#[64]⟩ : ByteArray) = ⟨t1.toArray⟩ := s1
        have s3 : (⟨t2.toArray⟩ ++ ⟨#[126]⟩ : ByteArray) = ⟨t3.toArray⟩ := s3
        have g1 : ¬9223372036854775807 < p.p.length + 1 := by omega
        have g2 : ¬9223372036854775807 < t1.length + X1.length := by omega
        have g3 : ¬9223372036854775807 < t2.length + 1 := by omega
        have g4 : ¬9223372036854775807 < t3.length + X2.length := by omega
        have hws : ws.length ≤ 1000 := by omega
        have hws9 : ws.length + 1 ≤ 10 := by omega
        clear hp h4 hok hw hb hown hpc hio i0 i1 o0 o1 lc ld1 ld2 l1 l2 l3 HWL
        go_wp2_with fail
        clear c0 c1 c2
        obtain ⟨wq, hwq⟩ : ∃ q, q = wr.alloc (.cells #[.string ⟨p.p.toArray⟩, .int .i64 p.i, .int .i64 p.o] 40) := ⟨_, rfl⟩
        rw [← hwq] at kb hT hrow hlo HBW ⊢
        clear hwq
        refine region_inv (by kernel_rfl) (by kernel_rfl) (fun d a W => ∃ us, a = frVt us ∧ InvVt wr.heap.size w1.heap.size (.slice (some ⟨b, off, none⟩) ps.length c) (.slice (some ⟨b, off, none⟩) ps.length c) ps.length k (.slice O ws.length q) ws t1 t2 t3 T X1 X2 p (w1.heap.size) wq d us W) ?_ ?_ ?_
        · refine ⟨_, frVt_of, ?_⟩
          have Z : ∀ k, (Array.replicate 16 false).getD k false = false := fun k => by
            rcases Nat.lt_or_ge k 16 with h | h
            · simp [h]
            · simp [Array.getElem?_eq_none, h]
          have Zn : ∀ {k : Nat} {p : Prop}, (Array.replicate 16 false).getD k false = true → p := fun {k p} h => by rw [Z k] at h; cases h
          exact { u0 := rfl, u1 := rfl, u5 := rfl, u33 := rfl, u34 := rfl, u7 := rfl, u8 := rfl, u9 := rfl, u10 := rfl, u2 := rfl, u3 := rfl, u6 := rfl, u11 := rfl, u12 := rfl, u13 := rfl, u4 := fun _ => rfl, bel := fun _ => (Below.refl _ _).drew, belo := ((Below.refl wq.heap.size wq).drew).mono hlo, allR := Zn, allL := Zn, o0 := Zn, o1 := Zn, o2 := Zn, o3 := Zn, o4 := Zn, o5 := Zn, o6 := Zn, o7 := Zn, o8 := Zn, o9 := Zn, o10 := Zn, o11 := Zn, o12 := Zn, o13 := Zn, o14 := Zn, o15 := Zn, p2 := Zn, p3 := Zn, p5 := Zn, p6 := Zn, p7 := Zn, p8 := Zn, p10 := Zn, p11 := Zn, p12 := Zn, p13 := Zn }
        · intro i d a W hi hI
          obtain ⟨hun, oi, hoi, hall⟩ := mem_ready.1 hi
          have hlt : i < 16 := (Array.getElem?_eq_some_iff.1 hoi).1
          obtain ⟨us, rfl, I⟩ := hI
          have e0 := I.u0
          have e1 := I.u1
          have e5 := I.u5
          have e33 := I.u33
          have e34 := I.u34
          have e7 := I.u7
          have e8 := I.u8
          have e9 := I.u9
          have e10 := I.u10
          have e2 := I.u2
          have e3 := I.u3
          have e6 := I.u6
          have e11 := I.u11
          have e12 := I.u12
          have e13 := I.u13
          rcases (by omega : i = 0 ∨ i = 1 ∨ i = 2 ∨ i = 3 ∨ i = 4 ∨ i = 5 ∨ i = 6 ∨ i = 7 ∨ i = 8 ∨ i = 9 ∨ i = 10 ∨ i = 11 ∨ i = 12 ∨ i = 13 ∨ i = 14 ∨ i = 15) with rfl | rfl | rfl | rfl | rfl | rfl | rfl | rfl | rfl | rfl | rfl | rfl | rfl | rfl | rfl | rfl
          all_goals
            obtain rfl := Option.some.inj hoi
            clear hoi hlt hi
          · skip
            have D0 : (d.setIfInBounds 0 true).getD 0 false = true := getD_setG hun
            have D1 : (d.setIfInBounds 0 true).getD 1 false = d.getD 1 false := getD_set_ne false (by decide)
            have D2 : (d.setIfInBounds 0 true).getD 2 false = d.getD 2 false := getD_set_ne false (by decide)
            have D3 : (d.setIfInBounds 0 true).getD 3 false = d.getD 3 false := getD_set_ne false (by decide)
            have D4 : (d.setIfInBounds 0 true).getD 4 false = d.getD 4 false := getD_set_ne false (by decide)
            have D5 : (d.setIfInBounds 0 true).getD 5 false = d.getD 5 false := getD_set_ne false (by decide)
            have D6 : (d.setIfInBounds 0 true).getD 6 false = d.getD 6 false := getD_set_ne false (by decide)
            have D7 : (d.setIfInBounds 0 true).getD 7 false = d.getD 7 false := getD_set_ne false (by decide)
            have D8 : (d.setIfInBounds 0 true).getD 8 false = d.getD 8 false := getD_set_ne false (by decide)
            have D9 : (d.setIfInBounds 0 true).getD 9 false = d.getD 9 false := getD_set_ne false (by decide)
            have D10 : (d.setIfInBounds 0 true).getD 10 false = d.getD 10 false := getD_set_ne false (by decide)
            have D11 : (d.setIfInBounds 0 true).getD 11 false = d.getD 11 false := getD_set_ne false (by decide)
            have D12 : (d.setIfInBounds 0 true).getD 12 false = d.getD 12 false := getD_set_ne false (by decide)
            have D13 : (d.setIfInBounds 0 true).getD 13 false = d.getD 13 false := getD_set_ne false (by decide)
            have D14 : (d.setIfInBounds 0 true).getD 14 false = d.getD 14 false := getD_set_ne false (by decide)
            have D15 : (d.setIfInBounds 0 true).getD 15 false = d.getD 15 false := getD_set_ne false (by decide)
            have F0 := getD_tfG hun
            have F15 : d.getD 15 false = false := by
              cases hh : d.getD 15 false with
              | false => rfl
              | true => have := I.allL hh 0 (by decide); rw [F0] at this; cases this
            have e4 := I.u4 F15
            have F14 : d.getD 14 false = false := by
              cases hh : d.getD 14 false with
              | false => rfl
              | true => have := I.allR hh 0 (by decide); rw [F0] at this; cases this
            have hbel := I.bel F14
            have hsz : wq.heap.size ≤ W.heap.size := hbel.size
            have hTab := hT.below hbel
            have hbx := (kb.step hbel).cells
            have c0 := hbx.c0
            have c1 := hbx.c1
            have c2 := hbx.c2
            have U0 : updG us 17 ((.slice O ws.length q)) 0 = us 0 := upd_otherG (by decide)
            have U1 : updG us 17 ((.slice O ws.length q)) 1 = us 1 := upd_otherG (by decide)
            have U2 : updG us 17 ((.slice O ws.length q)) 2 = us 2 := upd_otherG (by decide)
            have U3 : updG us 17 ((.slice O ws.length q)) 3 = us 3 := upd_otherG (by decide)
            have U4 : updG us 17 ((.slice O ws.length q)) 4 = us 4 := upd_otherG (by decide)
            have U5 : updG us 17 ((.slice O ws.length q)) 5 = us 5 := upd_otherG (by decide)
            have U6 : updG us 17 ((.slice O ws.length q)) 6 = us 6 := upd_otherG (by decide)
            have U7 : updG us 17 ((.slice O ws.length q)) 7 = us 7 := upd_otherG (by decide)
            have U8 : updG us 17 ((.slice O ws.length q)) 8 = us 8 := upd_otherG (by decide)
            have U9 : updG us 17 ((.slice O ws.length q)) 9 = us 9 := upd_otherG (by decide)
            have U10 : updG us 17 ((.slice O ws.length q)) 10 = us 10 := upd_otherG (by decide)
            have U11 : updG us 17 ((.slice O ws.length q)) 11 = us 11 := upd_otherG (by decide)
            have U12 : updG us 17 ((.slice O ws.length q)) 12 = us 12 := upd_otherG (by decide)
            have U13 : updG us 17 ((.slice O ws.length q)) 13 = us 13 := upd_otherG (by decide)
            have U17 : updG us 17 ((.slice O ws.length q)) 17 = ((.slice O ws.length q)) := upd_sameG _ _ _
            have U18 : updG us 17 ((.slice O ws.length q)) 18 = us 18 := upd_otherG (by decide)
            have U19 : updG us 17 ((.slice O ws.length q)) 19 = us 19 := upd_otherG (by decide)
            have U20 : updG us 17 ((.slice O ws.length q)) 20 = us 20 := upd_otherG (by decide)
            have U21 : updG us 17 ((.slice O ws.length q)) 21 = us 21 := upd_otherG (by decide)
            have U22 : updG us 17 ((.slice O ws.length q)) 22 = us 22 := upd_otherG (by decide)
            have U23 : updG us 17 ((.slice O ws.length q)) 23 = us 23 := upd_otherG (by decide)
            have U24 : updG us 17 ((.slice O ws.length q)) 24 = us 24 := upd_otherG (by decide)
            have U25 : updG us 17 ((.slice O ws.length q)) 25 = us 25 := upd_otherG (by decide)
            have U26 : updG us 17 ((.slice O ws.length q)) 26 = us 26 := upd_otherG (by decide)
            have U27 : updG us 17 ((.slice O ws.length q)) 27 = us 27 := upd_otherG (by decide)
            have U28 : updG us 17 ((.slice O ws.length q)) 28 = us 28 := upd_otherG (by decide)
            have U29 : updG us 17 ((.slice O ws.length q)) 29 = us 29 := upd_otherG (by decide)
            have U30 : updG us 17 ((.slice O ws.length q)) 30 = us 30 := upd_otherG (by decide)
            have U31 : updG us 17 ((.slice O ws.length q)) 31 = us 31 := upd_otherG (by decide)
            have U33 : updG us 17 ((.slice O ws.length q)) 33 = us 33 := upd_otherG (by decide)
            have U34 : updG us 17 ((.slice O ws.length q)) 34 = us 34 := upd_otherG (by decide)
            refine wpOp_step rfl (fun K hK => ?_)
            simp only [frVt, e0, e1, e5, e33, e34, e7, e8, e9, e10, e2, e3, e6, e11, e12, e13, e4]
            go_simp
            refine hK _ _ ⟨updG us 17 ((.slice O ws.length q)), by simp [frVt, updG, e0, e1, e5, e33, e34, e7, e8, e9, e10, e2, e3, e6, e11, e12, e13, e4], { u0 := (U0.trans I.u0), u1 := (U1.trans I.u1), u5 := (U5.trans I.u5), u33 := (U33.trans I.u33), u34 := (U34.trans I.u34), u7 := (U7.trans I.u7), u8 := (U8.trans I.u8), u9 := (U9.trans I.u9), u10 := (U10.trans I.u10), u2 := (U2.trans I.u2), u3 := (U3.trans I.u3), u6 := (U6.trans I.u6), u11 := (U11.trans I.u11), u12 := (U12.trans I.u12), u13 := (U13.trans I.u13), u4 := (fun h => U4.trans (I.u4 (D15.symm.trans h))), bel := (fun _ => hbel), belo := (I.belo), allR := (fun h => absurd (D14.symm.trans h) (by rw [F14]; exact Bool.false_ne_true)), allL := (fun h => absurd (D15.symm.trans h) (by rw [F15]; exact Bool.false_ne_true)), o0 := (fun _ => U17), o1 := (fun h => U18.trans (I.o1 (D1.symm.trans h))), p2 := (fun h => by have hh := I.p2 (D2.symm.trans h); exact D1.trans hh), o2 := (fun h => U19.trans (I.o2 (D2.symm.trans h))), p3 := (fun h => by have hh := I.p3 (D3.symm.trans h); exact D2.trans hh), o3 := (fun h => U20.trans (I.o3 (D3.symm.trans h))), o4 := (fun h => U21.trans (I.o4 (D4.symm.trans h))), p5 := (fun h => by have hh := I.p5 (D5.symm.trans h); exact D4.trans hh), o5 := (fun h => U22.trans (I.o5 (D5.symm.trans h))), p6 := (fun h => by have hh := I.p6 (D6.symm.trans h); exact D5.trans hh), o6 := (fun h => U23.trans (I.o6 (D6.symm.trans h))), p7 := (fun h => by have hh := I.p7 (D7.symm.trans h); exact ⟨D3.trans hh.1, D6.trans hh.2⟩), o7 := (fun h => U24.trans (I.o7 (D7.symm.trans h))), p8 := (fun h => by have hh := I.p8 (D8.symm.trans h); exact D7.trans hh), o8 := (fun h => U25.trans (I.o8 (D8.symm.trans h))), o9 := (fun h => U26.trans (I.o9 (D9.symm.trans h))), p10 := (fun h => by have hh := I.p10 (D10.symm.trans h); exact D9.trans hh), o10 := (fun h => U27.trans (I.o10 (D10.symm.trans h))), p11 := (fun h => by have hh := I.p11 (D11.symm.trans h); exact D10.trans hh), o11 := (fun h => U28.trans (I.o11 (D11.symm.trans h))), p12 := (fun h => by have hh := I.p12 (D12.symm.trans h); exact ⟨D8.trans hh.1, D11.trans hh.2⟩), o12 := (fun h => U29.trans (I.o12 (D12.symm.trans h))), p13 := (fun h => by have hh := I.p13 (D13.symm.trans h); exact D12.trans hh), o13 := (fun h h2 => by rw [U30]; exact I.o13 (D13.symm.trans h) (D14.symm.trans h2)), o14 := (fun h => absurd (D14.symm.trans h) (by rw [F14]; exact Bool.false_ne_true)), o15 := (fun h => absurd (D15.symm.trans h) (by rw [F15]; exact Bool.false_ne_true)) }⟩
          · skip
            have D0 : (d.setIfInBounds 1 true).getD 0 false = d.getD 0 false := getD_set_ne false (by decide)
            have D1 : (d.setIfInBounds 1 true).getD 1 false = true := getD_setG hun
            have D2 : (d.setIfInBounds 1 true).getD 2 false = d.getD 2 false := getD_set_ne false (by decide)
            have D3 : (d.setIfInBounds 1 true).getD 3 false = d.getD 3 false := getD_set_ne false (by decide)
            have D4 : (d.setIfInBounds 1 true).getD 4 false = d.getD 4 false := getD_set_ne false (by decide)
            have D5 : (d.setIfInBounds 1 true).getD 5 false = d.getD 5 false := getD_set_ne false (by decide)
            have D6 : (d.setIfInBounds 1 true).getD 6 false = d.getD 6 false := getD_set_ne false (by decide)
            have D7 : (d.setIfInBounds 1 true).getD 7 false = d.getD 7 false := getD_set_ne false (by decide)
            have D8 : (d.setIfInBounds 1 true).getD 8 false = d.getD 8 false := getD_set_ne false (by decide)
            have D9 : (d.setIfInBounds 1 true).getD 9 false = d.getD 9 false := getD_set_ne false (by decide)
            have D10 : (d.setIfInBounds 1 true).getD 10 false = d.getD 10 false := getD_set_ne false (by decide)
            have D11 : (d.setIfInBounds 1 true).getD 11 false = d.getD 11 false := getD_set_ne false (by decide)
            have D12 : (d.setIfInBounds 1 true).getD 12 false = d.getD 12 false := getD_set_ne false (by decide)
            have D13 : (d.setIfInBounds 1 true).getD 13 false = d.getD 13 false := getD_set_ne false (by decide)
            have D14 : (d.setIfInBounds 1 true).getD 14 false = d.getD 14 false := getD_set_ne false (by decide)
            have D15 : (d.setIfInBounds 1 true).getD 15 false = d.getD 15 false := getD_set_ne false (by decide)
            have F1 := getD_tfG hun
            have F15 : d.getD 15 false = false := by
              cases hh : d.getD 15 false with
              | false => rfl
              | true => have := I.allL hh 1 (by decide); rw [F1] at this; cases this
            have e4 := I.u4 F15
            have F14 : d.getD 14 false = false := by
              cases hh : d.getD 14 false with
              | false => rfl
              | true => have := I.allR hh 1 (by decide); rw [F1] at this; cases this
            have hbel := I.bel F14
            have hsz : wq.heap.size ≤ W.heap.size := hbel.size
            have hTab := hT.below hbel
            have hbx := (kb.step hbel).cells
            have c0 := hbx.c0
            have c1 := hbx.c1
            have c2 := hbx.c2
            have U0 : updG us 18 (.pointer (some ⟨(wr.heap.size), 0, none⟩)) 0 = us 0 := upd_otherG (by decide)
            have U1 : updG us 18 (.pointer (some ⟨(wr.heap.size), 0, none⟩)) 1 = us 1 := upd_otherG (by decide)
            have U2 : updG us 18 (.pointer (some ⟨(wr.heap.size), 0, none⟩)) 2 = us 2 := upd_otherG (by decide)
            have U3 : updG us 18 (.pointer (some ⟨(wr.heap.size), 0, none⟩)) 3 = us 3 := upd_otherG (by decide)
            have U4 : updG us 18 (.pointer (some ⟨(wr.heap.size), 0, none⟩)) 4 = us 4 := upd_otherG (by decide)
            have U5 : updG us 18 (.pointer (some ⟨(wr.heap.size), 0, none⟩)) 5 = us 5 := upd_otherG (by decide)
            have U6 : updG us 18 (.pointer (some ⟨(wr.heap.size), 0, none⟩)) 6 = us 6 := upd_otherG (by decide)
            have U7 : updG us 18 (.pointer (some ⟨(wr.heap.size), 0, none⟩)) 7 = us 7 := upd_otherG (by decide)
            have U8 : updG us 18 (.pointer (some ⟨(wr.heap.size), 0, none⟩)) 8 = us 8 := upd_otherG (by decide)
            have U9 : updG us 18 (.pointer (some ⟨(wr.heap.size), 0, none⟩)) 9 = us 9 := upd_otherG (by decide)
            have U10 : updG us 18 (.pointer (some ⟨(wr.heap.size), 0, none⟩)) 10 = us 10 := upd_otherG (by decide)
            have U11 : updG us 18 (.pointer (some ⟨(wr.heap.size), 0, none⟩)) 11 = us 11 := upd_otherG (by decide)
            have U12 : updG us 18 (.pointer (some ⟨(wr.heap.size), 0, none⟩)) 12 = us 12 := upd_otherG (by decide)
            have U13 : updG us 18 (.pointer (some ⟨(wr.heap.size), 0, none⟩)) 13 = us 13 := upd_otherG (by decide)
            have U17 : updG us 18 (.pointer (some ⟨(wr.heap.size), 0, none⟩)) 17 = us 17 := upd_otherG (by decide)
            have U18 : updG us 18 (.pointer (some ⟨(wr.heap.size), 0, none⟩)) 18 = (.pointer (some ⟨(wr.heap.size), 0, none⟩)) := upd_sameG _ _ _
            have U19 : updG us 18 (.pointer (some ⟨(wr.heap.size), 0, none⟩)) 19 = us 19 := upd_otherG (by decide)
            have U20 : updG us 18 (.pointer (some ⟨(wr.heap.size), 0, none⟩)) 20 = us 20 := upd_otherG (by decide)
            have U21 : updG us 18 (.pointer (some ⟨(wr.heap.size), 0, none⟩)) 21 = us 21 := upd_otherG (by decide)
            have U22 : updG us 18 (.pointer (some ⟨(wr.heap.size), 0, none⟩)) 22 = us 22 := upd_otherG (by decide)
            have U23 : updG us 18 (.pointer (some ⟨(wr.heap.size), 0, none⟩)) 23 = us 23 := upd_otherG (by decide)
            have U24 : updG us 18 (.pointer (some ⟨(wr.heap.size), 0, none⟩)) 24 = us 24 := upd_otherG (by decide)
            have U25 : updG us 18 (.pointer (some ⟨(wr.heap.size), 0, none⟩)) 25 = us 25 := upd_otherG (by decide)
            have U26 : updG us 18 (.pointer (some ⟨(wr.heap.size), 0, none⟩)) 26 = us 26 := upd_otherG (by decide)
            have U27 : updG us 18 (.pointer (some ⟨(wr.heap.size), 0, none⟩)) 27 = us 27 := upd_otherG (by decide)
            have U28 : updG us 18 (.pointer (some ⟨(wr.heap.size), 0, none⟩)) 28 = us 28 := upd_otherG (by decide)
            have U29 : updG us 18 (.pointer (some ⟨(wr.heap.size), 0, none⟩)) 29 = us 29 := upd_otherG (by decide)
            have U30 : updG us 18 (.pointer (some ⟨(wr.heap.size), 0, none⟩)) 30 = us 30 := upd_otherG (by decide)
            have U31 : updG us 18 (.pointer (some ⟨(wr.heap.size), 0, none⟩)) 31 = us 31 := upd_otherG (by decide)
            have U33 : updG us 18 (.pointer (some ⟨(wr.heap.size), 0, none⟩)) 33 = us 33 := upd_otherG (by decide)
            have U34 : updG us 18 (.pointer (some ⟨(wr.heap.size), 0, none⟩)) 34 = us 34 := upd_otherG (by decide)
            refine wpOp_step rfl (fun K hK => ?_)
            simp only [frVt, e0, e1, e5, e33, e34, e7, e8, e9, e10, e2, e3, e6, e11, e12, e13, e4]
            go_simp
            refine hK _ _ ⟨updG us 18 (.pointer (some ⟨(wr.heap.size), 0, none⟩)), by simp [frVt, updG, e0, e1, e5, e33, e34, e7, e8, e9, e10, e2, e3, e6, e11, e12, e13, e4], { u0 := (U0.trans I.u0), u1 := (U1.trans I.u1), u5 := (U5.trans I.u5), u33 := (U33.trans I.u33), u34 := (U34.trans I.u34), u7 := (U7.trans I.u7), u8 := (U8.trans I.u8), u9 := (U9.trans I.u9), u10 := (U10.trans I.u10), u2 := (U2.trans I.u2), u3 := (U3.trans I.u3), u6 := (U6.trans I.u6), u11 := (U11.trans I.u11), u12 := (U12.trans I.u12), u13 := (U13.trans I.u13), u4 := (fun h => U4.trans (I.u4 (D15.symm.trans h))), bel := (fun _ => hbel), belo := (I.belo), allR := (fun h => absurd (D14.symm.trans h) (by rw [F14]; exact Bool.false_ne_true)), allL := (fun h => absurd (D15.symm.trans h) (by rw [F15]; exact Bool.false_ne_true)), o0 := (fun h => U17.trans (I.o0 (D0.symm.trans h))), o1 := (fun _ => U18), p2 := (fun h => by have hh := I.p2 (D2.symm.trans h); exact D1), o2 := (fun h => U19.trans (I.o2 (D2.symm.trans h))), p3 := (fun h => by have hh := I.p3 (D3.symm.trans h); exact D2.trans hh), o3 := (fun h => U20.trans (I.o3 (D3.symm.trans h))), o4 := (fun h => U21.trans (I.o4 (D4.symm.trans h))), p5 := (fun h => by have hh := I.p5 (D5.symm.trans h); exact D4.trans hh), o5 := (fun h => U22.trans (I.o5 (D5.symm.trans h))), p6 := (fun h => by have hh := I.p6 (D6.symm.trans h); exact D5.trans hh), o6 := (fun h => U23.trans (I.o6 (D6.symm.trans h))), p7 := (fun h => by have hh := I.p7 (D7.symm.trans h); exact ⟨D3.trans hh.1, D6.trans hh.2⟩), o7 := (fun h => U24.trans (I.o7 (D7.symm.trans h))), p8 := (fun h => by have hh := I.p8 (D8.symm.trans h); exact D7.trans hh), o8 := (fun h => U25.trans (I.o8 (D8.symm.trans h))), o9 := (fun h => U26.trans (I.o9 (D9.symm.trans h))), p10 := (fun h => by have hh := I.p10 (D10.symm.trans h); exact D9.trans hh), o10 := (fun h => U27.trans (I.o10 (D10.symm.trans h))), p11 := (fun h => by have hh := I.p11 (D11.symm.trans h); exact D10.trans hh), o11 := (fun h => U28.trans (I.o11 (D11.symm.trans h))), p12 := (fun h => by have hh := I.p12 (D12.symm.trans h); exact ⟨D8.trans hh.1, D11.trans hh.2⟩), o12 := (fun h => U29.trans (I.o12 (D12.symm.trans h))), p13 := (fun h => by have hh := I.p13 (D13.symm.trans h); exact D12.trans hh), o13 := (fun h h2 => by rw [U30]; exact I.o13 (D13.symm.trans h) (D14.symm.trans h2)), o14 := (fun h => absurd (D14.symm.trans h) (by rw [F14]; exact Bool.false_ne_true)), o15 := (fun h => absurd (D15.symm.trans h) (by rw [F15]; exact Bool.false_ne_true)) }⟩
          · skip
            have D0 : (d.setIfInBounds 2 true).getD 0 false = d.getD 0 false := getD_set_ne false (by decide)
            have D1 : (d.setIfInBounds 2 true).getD 1 false = d.getD 1 false := getD_set_ne false (by decide)
            have D2 : (d.setIfInBounds 2 true).getD 2 false = true := getD_setG hun
            have D3 : (d.setIfInBounds 2 true).getD 3 false = d.getD 3 false := getD_set_ne false (by decide)
            have D4 : (d.setIfInBounds 2 true).getD 4 false = d.getD 4 false := getD_set_ne false (by decide)
            have D5 : (d.setIfInBounds 2 true).getD 5 false = d.getD 5 false := getD_set_ne false (by decide)
            have D6 : (d.setIfInBounds 2 true).getD 6 false = d.getD 6 false := getD_set_ne false (by decide)
            have D7 : (d.setIfInBounds 2 true).getD 7 false = d.getD 7 false := getD_set_ne false (by decide)
            have D8 : (d.setIfInBounds 2 true).getD 8 false = d.getD 8 false := getD_set_ne false (by decide)
            have D9 : (d.setIfInBounds 2 true).getD 9 false = d.getD 9 false := getD_set_ne false (by decide)
            have D10 : (d.setIfInBounds 2 true).getD 10 false = d.getD 10 false := getD_set_ne false (by decide)
            have D11 : (d.setIfInBounds 2 true).getD 11 false = d.getD 11 false := getD_set_ne false (by decide)
            have D12 : (d.setIfInBounds 2 true).getD 12 false = d.getD 12 false := getD_set_ne false (by decide)
            have D13 : (d.setIfInBounds 2 true).getD 13 false = d.getD 13 false := getD_set_ne false (by decide)
            have D14 : (d.setIfInBounds 2 true).getD 14 false = d.getD 14 false := getD_set_ne false (by decide)
            have D15 : (d.setIfInBounds 2 true).getD 15 false = d.getD 15 false := getD_set_ne false (by decide)
            have F2 := getD_tfG hun
            have F15 : d.getD 15 false = false := by
              cases hh : d.getD 15 false with
              | false => rfl
              | true => have := I.allL hh 2 (by decide); rw [F2] at this; cases this
            have e4 := I.u4 F15
            have F14 : d.getD 14 false = false := by
              cases hh : d.getD 14 false with
              | false => rfl
              | true => have := I.allR hh 2 (by decide); rw [F2] at this; cases this
            have hbel := I.bel F14
            have hsz : wq.heap.size ≤ W.heap.size := hbel.size
            have hTab := hT.below hbel
            have hbx := (kb.step hbel).cells
            have c0 := hbx.c0
            have c1 := hbx.c1
            have c2 := hbx.c2
            have h1 := hall ⟨1, .data⟩ (by simp) rfl
            have e18 := I.o1 h1
            have U0 : updG us 19 (.string ⟨p.p.toArray⟩) 0 = us 0 := upd_otherG (by decide)
            have U1 : updG us 19 (.string ⟨p.p.toArray⟩) 1 = us 1 := upd_otherG (by decide)
            have U2 : updG us 19 (.string ⟨p.p.toArray⟩) 2 = us 2 := upd_otherG (by decide)
            have U3 : updG us 19 (.string ⟨p.p.toArray⟩) 3 = us 3 := upd_otherG (by decide)
            have U4 : updG us 19 (.string ⟨p.p.toArray⟩) 4 = us 4 := upd_otherG (by decide)
            have U5 : updG us 19 (.string ⟨p.p.toArray⟩) 5 = us 5 := upd_otherG (by decide)
            have U6 : updG us 19 (.string ⟨p.p.toArray⟩) 6 = us 6 := upd_otherG (by decide)
            have U7 : updG us 19 (.string ⟨p.p.toArray⟩) 7 = us 7 := upd_otherG (by decide)
            have U8 : updG us 19 (.string ⟨p.p.toArray⟩) 8 = us 8 := upd_otherG (by decide)
            have U9 : updG us 19 (.string ⟨p.p.toArray⟩) 9 = us 9 := upd_otherG (by decide)
            have U10 : updG us 19 (.string ⟨p.p.toArray⟩) 10 = us 10 := upd_otherG (by decide)
            have U11 : updG us 19 (.string ⟨p.p.toArray⟩) 11 = us 11 := upd_otherG (by decide)
            have U12 : updG us 19 (.string ⟨p.p.toArray⟩) 12 = us 12 := upd_otherG (by decide)
            have U13 : updG us 19 (.string ⟨p.p.toArray⟩) 13 = us 13 := upd_otherG (by decide)
            have U17 : updG us 19 (.string ⟨p.p.toArray⟩) 17 = us 17 := upd_otherG (by decide)
            have U18 : updG us 19 (.string ⟨p.p.toArray⟩) 18 = us 18 := upd_otherG (by decide)
            have U19 : updG us 19 (.string ⟨p.p.toArray⟩) 19 = (.string ⟨p.p.toArray⟩) := upd_sameG _ _ _
            have U20 : updG us 19 (.string ⟨p.p.toArray⟩) 20 = us 20 := upd_otherG (by decide)
            have U21 : updG us 19 (.string ⟨p.p.toArray⟩) 21 = us 21 := upd_otherG (by decide)
            have U22 : updG us 19 (.string ⟨p.p.toArray⟩) 22 = us 22 := upd_otherG (by decide)
            have U23 : updG us 19 (.string ⟨p.p.toArray⟩) 23 = us 23 := upd_otherG (by decide)
            have U24 : updG us 19 (.string ⟨p.p.toArray⟩) 24 = us 24 := upd_otherG (by decide)
            have U25 : updG us 19 (.string ⟨p.p.toArray⟩) 25 = us 25 := upd_otherG (by decide)
            have U26 : updG us 19 (.string ⟨p.p.toArray⟩) 26 = us 26 := upd_otherG (by decide)
            have U27 : updG us 19 (.string ⟨p.p.toArray⟩) 27 = us 27 := upd_otherG (by decide)
            have U28 : updG us 19 (.string ⟨p.p.toArray⟩) 28 = us 28 := upd_otherG (by decide)
            have U29 : updG us 19 (.string ⟨p.p.toArray⟩) 29 = us 29 := upd_otherG (by decide)
            have U30 : updG us 19 (.string ⟨p.p.toArray⟩) 30 = us 30 := upd_otherG (by decide)
            have U31 : updG us 19 (.string ⟨p.p.toArray⟩) 31 = us 31 := upd_otherG (by decide)
            have U33 : updG us 19 (.string ⟨p.p.toArray⟩) 33 = us 33 := upd_otherG (by decide)
            have U34 : updG us 19 (.string ⟨p.p.toArray⟩) 34 = us 34 := upd_otherG (by decide)
            refine wpOp_step rfl (fun K hK => ?_)
            simp only [frVt, e0, e1, e5, e33, e34, e7, e8, e9, e10, e2, e3, e6, e11, e12, e13, e4, e18]
            go_simp
            refine hK _ _ ⟨updG us 19 (.string ⟨p.p.toArray⟩), by simp [frVt, updG, e0, e1, e5, e33, e34, e7, e8, e9, e10, e2, e3, e6, e11, e12, e13, e4, e18], { u0 := (U0.trans I.u0), u1 := (U1.trans I.u1), u5 := (U5.trans I.u5), u33 := (U33.trans I.u33), u34 := (U34.trans I.u34), u7 := (U7.trans I.u7), u8 := (U8.trans I.u8), u9 := (U9.trans I.u9), u10 := (U10.trans I.u10), u2 := (U2.trans I.u2), u3 := (U3.trans I.u3), u6 := (U6.trans I.u6), u11 := (U11.trans I.u11), u12 := (U12.trans I.u12), u13 := (U13.trans I.u13), u4 := (fun h => U4.trans (I.u4 (D15.symm.trans h))), bel := (fun _ => hbel), belo := (I.belo), allR := (fun h => absurd (D14.symm.trans h) (by rw [F14]; exact Bool.false_ne_true)), allL := (fun h => absurd (D15.symm.trans h) (by rw [F15]; exact Bool.false_ne_true)), o0 := (fun h => U17.trans (I.o0 (D0.symm.trans h))), o1 := (fun h => U18.trans (I.o1 (D1.symm.trans h))), p2 := (fun _ => D1.trans h1), o2 := (fun _ => U19), p3 := (fun h => by have hh := I.p3 (D3.symm.trans h); exact D2), o3 := (fun h => U20.trans (I.o3 (D3.symm.trans h))), o4 := (fun h => U21.trans (I.o4 (D4.symm.trans h))), p5 := (fun h => by have hh := I.p5 (D5.symm.trans h); exact D4.trans hh), o5 := (fun h => U22.trans (I.o5 (D5.symm.trans h))), p6 := (fun h => by have hh := I.p6 (D6.symm.trans h); exact D5.trans hh), o6 := (fun h => U23.trans (I.o6 (D6.symm.trans h))), p7 := (fun h => by have hh := I.p7 (D7.symm.trans h); exact ⟨D3.trans hh.1, D6.trans hh.2⟩), o7 := (fun h => U24.trans (I.o7 (D7.symm.trans h))), p8 := (fun h => by have hh := I.p8 (D8.symm.trans h); exact D7.trans hh), o8 := (fun h => U25.trans (I.o8 (D8.symm.trans h))), o9 := (fun h => U26.trans (I.o9 (D9.symm.trans h))), p10 := (fun h => by have hh := I.p10 (D10.symm.trans h); exact D9.trans hh), o10 := (fun h => U27.trans (I.o10 (D10.symm.trans h))), p11 := (fun h => by have hh := I.p11 (D11.symm.trans h); exact D10.trans hh), o11 := (fun h => U28.trans (I.o11 (D11.symm.trans h))), p12 := (fun h => by have hh := I.p12 (D12.symm.trans h); exact ⟨D8.trans hh.1, D11.trans hh.2⟩), o12 := (fun h => U29.trans (I.o12 (D12.symm.trans h))), p13 := (fun h => by have hh := I.p13 (D13.symm.trans h); exact D12.trans hh), o13 := (fun h h2 => by rw [U30]; exact I.o13 (D13.symm.trans h) (D14.symm.trans h2)), o14 := (fun h => absurd (D14.symm.trans h) (by rw [F14]; exact Bool.false_ne_true)), o15 := (fun h => absurd (D15.symm.trans h) (by rw [F15]; exact Bool.false_ne_true)) }⟩
          · skip
            have D0 : (d.setIfInBounds 3 true).getD 0 false = d.getD 0 false := getD_set_ne false (by decide)
            have D1 : (d.setIfInBounds 3 true).getD 1 false = d.getD 1 false := getD_set_ne false (by decide)
            have D2 : (d.setIfInBounds 3 true).getD 2 false = d.getD 2 false := getD_set_ne false (by decide)
            have D3 : (d.setIfInBounds 3 true).getD 3 false = true := getD_setG hun
            have D4 : (d.setIfInBounds 3 true).getD 4 false = d.getD 4 false := getD_set_ne false (by decide)
            have D5 : (d.setIfInBounds 3 true).getD 5 false = d.getD 5 false := getD_set_ne false (by decide)
            have D6 : (d.setIfInBounds 3 true).getD 6 false = d.getD 6 false := getD_set_ne false (by decide)
            have D7 : (d.setIfInBounds 3 true).getD 7 false = d.getD 7 false := getD_set_ne false (by decide)
            have D8 : (d.setIfInBounds 3 true).getD 8 false = d.getD 8 false := getD_set_ne false (by decide)
            have D9 : (d.setIfInBounds 3 true).getD 9 false = d.getD 9 false := getD_set_ne false (by decide)
            have D10 : (d.setIfInBounds 3 true).getD 10 false = d.getD 10 false := getD_set_ne false (by decide)
            have D11 : (d.setIfInBounds 3 true).getD 11 false = d.getD 11 false := getD_set_ne false (by decide)
            have D12 : (d.setIfInBounds 3 true).getD 12 false = d.getD 12 false := getD_set_ne false (by decide)
            have D13 : (d.setIfInBounds 3 true).getD 13 false = d.getD 13 false := getD_set_ne false (by decide)
            have D14 : (d.setIfInBounds 3 true).getD 14 false = d.getD 14 false := getD_set_ne false (by decide)
            have D15 : (d.setIfInBounds 3 true).getD 15 false = d.getD 15 false := getD_set_ne false (by decide)
            have F3 := getD_tfG hun
            have F15 : d.getD 15 false = false := by
              cases hh : d.getD 15 false with
              | false => rfl
              | true => have := I.allL hh 3 (by decide); rw [F3] at this; cases this
            have e4 := I.u4 F15
            have F14 : d.getD 14 false = false := by
              cases hh : d.getD 14 false with
              | false => rfl
              | true => have := I.allR hh 3 (by decide); rw [F3] at this; cases this
            have hbel := I.bel F14
            have hsz : wq.heap.size ≤ W.heap.size := hbel.size
            have hTab := hT.below hbel
            have hbx := (kb.step hbel).cells
            have c0 := hbx.c0
            have c1 := hbx.c1
            have c2 := hbx.c2
            have h2 := hall ⟨2, .data⟩ (by simp) rfl
            have e19 := I.o2 h2
            have U0 : updG us 20 (.string ⟨t1.toArray⟩) 0 = us 0 := upd_otherG (by decide)
            have U1 : updG us 20 (.string ⟨t1.toArray⟩) 1 = us 1 := upd_otherG (by decide)
            have U2 : updG us 20 (.string ⟨t1.toArray⟩) 2 = us 2 := upd_otherG (by decide)
            have U3 : updG us 20 (.string ⟨t1.toArray⟩) 3 = us 3 := upd_otherG (by decide)
            have U4 : updG us 20 (.string ⟨t1.toArray⟩) 4 = us 4 := upd_otherG (by decide)
            have U5 : updG us 20 (.string ⟨t1.toArray⟩) 5 = us 5 := upd_otherG (by decide)
            have U6 : updG us 20 (.string ⟨t1.toArray⟩) 6 = us 6 := upd_otherG (by decide)
            have U7 : updG us 20 (.string ⟨t1.toArray⟩) 7 = us 7 := upd_otherG (by decide)
            have U8 : updG us 20 (.string ⟨t1.toArray⟩) 8 = us 8 := upd_otherG (by decide)
            have U9 : updG us 20 (.string ⟨t1.toArray⟩) 9 = us 9 := upd_otherG (by decide)
            have U10 : updG us 20 (.string ⟨t1.toArray⟩) 10 = us 10 := upd_otherG (by decide)
            have U11 : updG us 20 (.string ⟨t1.toArray⟩) 11 = us 11 := upd_otherG (by decide)
            have U12 : updG us 20 (.string ⟨t1.toArray⟩) 12 = us 12 := upd_otherG (by decide)
            have U13 : updG us 20 (.string ⟨t1.toArray⟩) 13 = us 13 := upd_otherG (by decide)
            have U17 : updG us 20 (.string ⟨t1.toArray⟩) 17 = us 17 := upd_otherG (by decide)
            have U18 : updG us 20 (.string ⟨t1.toArray⟩) 18 = us 18 := upd_otherG (by decide)
            have U19 : updG us 20 (.string ⟨t1.toArray⟩) 19 = us 19 := upd_otherG (by decide)
            have U20 : updG us 20 (.string ⟨t1.toArray⟩) 20 = (.string ⟨t1.toArray⟩) := upd_sameG _ _ _
            have U21 : updG us 20 (.string ⟨t1.toArray⟩) 21 = us 21 := upd_otherG (by decide)
            have U22 : updG us 20 (.string ⟨t1.toArray⟩) 22 = us 22 := upd_otherG (by decide)
            have U23 : updG us 20 (.string ⟨t1.toArray⟩) 23 = us 23 := upd_otherG (by decide)
            have U24 : updG us 20 (.string ⟨t1.toArray⟩) 24 = us 24 := upd_otherG (by decide)
            have U25 : updG us 20 (.string ⟨t1.toArray⟩) 25 = us 25 := upd_otherG (by decide)
            have U26 : updG us 20 (.string ⟨t1.toArray⟩) 26 = us 26 := upd_otherG (by decide)
            have U27 : updG us 20 (.string ⟨t1.toArray⟩) 27 = us 27 := upd_otherG (by decide)
            have U28 : updG us 20 (.string ⟨t1.toArray⟩) 28 = us 28 := upd_otherG (by decide)
            have U29 : updG us 20 (.string ⟨t1.toArray⟩) 29 = us 29 := upd_otherG (by decide)
            have U30 : updG us 20 (.string ⟨t1.toArray⟩) 30 = us 30 := upd_otherG (by decide)
            have U31 : updG us 20 (.string ⟨t1.toArray⟩) 31 = us 31 := upd_otherG (by decide)
            have U33 : updG us 20 (.string ⟨t1.toArray⟩) 33 = us 33 := upd_otherG (by decide)
            have U34 : updG us 20 (.string ⟨t1.toArray⟩) 34 = us 34 := upd_otherG (by decide)
            refine wpOp_step rfl (fun K hK => ?_)
            simp only [frVt, e0, e1, e5, e33, e34, e7, e8, e9, e10, e2, e3, e6, e11, e12, e13, e4, e19]
            go_simp
            refine hK _ _ ⟨updG us 20 (.string ⟨t1.toArray⟩), by simp [frVt, updG, e0, e1, e5, e33, e34, e7, e8, e9, e10, e2, e3, e6, e11, e12, e13, e4, e19, s1], { u0 := (U0.trans I.u0), u1 := (U1.trans I.u1), u5 := (U5.trans I.u5), u33 := (U33.trans I.u33), u34 := (U34.trans I.u34), u7 := (U7.trans I.u7), u8 := (U8.trans I.u8), u9 := (U9.trans I.u9), u10 := (U10.trans I.u10), u2 := (U2.trans I.u2), u3 := (U3.trans I.u3), u6 := (U6.trans I.u6), u11 := (U11.trans I.u11), u12 := (U12.trans I.u12), u13 := (U13.trans I.u13), u4 := (fun h => U4.trans (I.u4 (D15.symm.trans h))), bel := (fun _ => hbel), belo := (I.belo), allR := (fun h => absurd (D14.symm.trans h) (by rw [F14]; exact Bool.false_ne_true)), allL := (fun h => absurd (D15.symm.trans h) (by rw [F15]; exact Bool.false_ne_true)), o0 := (fun h => U17.trans (I.o0 (D0.symm.trans h))), o1 := (fun h => U18.trans (I.o1 (D1.symm.trans h))), p2 := (fun h => by have hh := I.p2 (D2.symm.trans h); exact D1.trans hh), o2 := (fun h => U19.trans (I.o2 (D2.symm.trans h))), p3 := (fun _ => D2.trans h2), o3 := (fun _ => U20), o4 := (fun h => U21.trans (I.o4 (D4.symm.trans h))), p5 := (fun h => by have hh := I.p5 (D5.symm.trans h); exact D4.trans hh), o5 := (fun h => U22.trans (I.o5 (D5.symm.trans h))), p6 := (fun h => by have hh := I.p6 (D6.symm.trans h); exact D5.trans hh), o6 := (fun h => U23.trans (I.o6 (D6.symm.trans h))), p7 := (fun h => by have hh := I.p7 (D7.symm.trans h); exact ⟨D3, D6.trans hh.2⟩), o7 := (fun h => U24.trans (I.o7 (D7.symm.trans h))), p8 := (fun h => by have hh := I.p8 (D8.symm.trans h); exact D7.trans hh), o8 := (fun h => U25.trans (I.o8 (D8.symm.trans h))), o9 := (fun h => U26.trans (I.o9 (D9.symm.trans h))), p10 := (fun h => by have hh := I.p10 (D10.symm.trans h); exact D9.trans hh), o10 := (fun h => U27.trans (I.o10 (D10.symm.trans h))), p11 := (fun h => by have hh := I.p11 (D11.symm.trans h); exact D10.trans hh), o11 := (fun h => U28.trans (I.o11 (D11.symm.trans h))), p12 := (fun h => by have hh := I.p12 (D12.symm.trans h); exact ⟨D8.trans hh.1, D11.trans hh.2⟩), o12 := (fun h => U29.trans (I.o12 (D12.symm.trans h))), p13 := (fun h => by have hh := I.p13 (D13.symm.trans h); exact D12.trans hh), o13 := (fun h h2 => by rw [U30]; exact I.o13 (D13.symm.trans h) (D14.symm.trans h2)), o14 := (fun h => absurd (D14.symm.trans h) (by rw [F14]; exact Bool.false_ne_true)), o15 := (fun h => absurd (D15.symm.trans h) (by rw [F15]; exact Bool.false_ne_true)) }⟩
          · skip
            have D0 : (d.setIfInBounds 4 true).getD 0 false = d.getD 0 false := getD_set_ne false (by decide)
            have D1 : (d.setIfInBounds 4 true).getD 1 false = d.getD 1 false := getD_set_ne false (by decide)
            have D2 : (d.setIfInBounds 4 true).getD 2 false = d.getD 2 false := getD_set_ne false (by decide)
            have D3 : (d.setIfInBounds 4 true).getD 3 false = d.getD 3 false := getD_set_ne false (by decide)
            have D4 : (d.setIfInBounds 4 true).getD 4 false = true := getD_setG hun
            have D5 : (d.setIfInBounds 4 true).getD 5 false = d.getD 5 false := getD_set_ne false (by decide)
            have D6 : (d.setIfInBounds 4 true).getD 6 false = d.getD 6 false := getD_set_ne false (by decide)
            have D7 : (d.setIfInBounds 4 true).getD 7 false = d.getD 7 false := getD_set_ne false (by decide)
            have D8 : (d.setIfInBounds 4 true).getD 8 false = d.getD 8 false := getD_set_ne false (by decide)
            have D9 : (d.setIfInBounds 4 true).getD 9 false = d.getD 9 false := getD_set_ne false (by decide)
            have D10 : (d.setIfInBounds 4 true).getD 10 false = d.getD 10 false := getD_set_ne false (by decide)
            have D11 : (d.setIfInBounds 4 true).getD 11 false = d.getD 11 false := getD_set_ne false (by decide)
            have D12 : (d.setIfInBounds 4 true).getD 12 false = d.getD 12 false := getD_set_ne false (by decide)
            have D13 : (d.setIfInBounds 4 true).getD 13 false = d.getD 13 false := getD_set_ne false (by decide)
            have D14 : (d.setIfInBounds 4 true).getD 14 false = d.getD 14 false := getD_set_ne false (by decide)
            have D15 : (d.setIfInBounds 4 true).getD 15 false = d.getD 15 false := getD_set_ne false (by decide)
            have F4 := getD_tfG hun
            have F15 : d.getD 15 false = false := by
              cases hh : d.getD 15 false with
              | false => rfl
              | true => have := I.allL hh 4 (by decide); rw [F4] at this; cases this
            have e4 := I.u4 F15
            have F14 : d.getD 14 false = false := by
              cases hh : d.getD 14 false with
              | false => rfl
              | true => have := I.allR hh 4 (by decide); rw [F4] at this; cases this
            have hbel := I.bel F14
            have hsz : wq.heap.size ≤ W.heap.size := hbel.size
            have hTab := hT.below hbel
            have hbx := (kb.step hbel).cells
            have c0 := hbx.c0
            have c1 := hbx.c1
            have c2 := hbx.c2
            have U0 : updG us 21 (.pointer (some ⟨(wr.heap.size), 1, none⟩)) 0 = us 0 := upd_otherG (by decide)
            have U1 : updG us 21 (.pointer (some ⟨(wr.heap.size), 1, none⟩)) 1 = us 1 := upd_otherG (by decide)
            have U2 : updG us 21 (.pointer (some ⟨(wr.heap.size), 1, none⟩)) 2 = us 2 := upd_otherG (by decide)
            have U3 : updG us 21 (.pointer (some ⟨(wr.heap.size), 1, none⟩)) 3 = us 3 := upd_otherG (by decide)
            have U4 : updG us 21 (.pointer (some ⟨(wr.heap.size), 1, none⟩)) 4 = us 4 := upd_otherG (by decide)
            have U5 : updG us 21 (.pointer (some ⟨(wr.heap.size), 1, none⟩)) 5 = us 5 := upd_otherG (by decide)
            have U6 : updG us 21 (.pointer (some ⟨(wr.heap.size), 1, none⟩)) 6 = us 6 := upd_otherG (by decide)
            have U7 : updG us 21 (.pointer (some ⟨(wr.heap.size), 1, none⟩)) 7 = us 7 := upd_otherG (by decide)
            have U8 : updG us 21 (.pointer (some ⟨(wr.heap.size), 1, none⟩)) 8 = us 8 := upd_otherG (by decide)
            have U9 : updG us 21 (.pointer (some ⟨(wr.heap.size), 1, none⟩)) 9 = us 9 := upd_otherG (by decide)
            have U10 : updG us 21 (.pointer (some ⟨(wr.heap.size), 1, none⟩)) 10 = us 10 := upd_otherG (by decide)
            have U11 : updG us 21 (.pointer (some ⟨(wr.heap.size), 1, none⟩)) 11 = us 11 := upd_otherG (by decide)
            have U12 : updG us 21 (.pointer (some ⟨(wr.heap.size), 1, none⟩)) 12 = us 12 := upd_otherG (by decide)
            have U13 : updG us 21 (.pointer (some ⟨(wr.heap.size), 1, none⟩)) 13 = us 13 := upd_otherG (by decide)
            have U17 : updG us 21 (.pointer (some ⟨(wr.heap.size), 1, none⟩)) 17 = us 17 := upd_otherG (by decide)
            have U18 : updG us 21 (.pointer (some ⟨(wr.heap.size), 1, none⟩)) 18 = us 18 := upd_otherG (by decide)
            have U19 : updG us 21 (.pointer (some ⟨(wr.heap.size), 1, none⟩)) 19 = us 19 := upd_otherG (by decide)
            have U20 : updG us 21 (.pointer (some ⟨(wr.heap.size), 1, none⟩)) 20 = us 20 := upd_otherG (by decide)
            have U21 : updG us 21 (.pointer (some ⟨(wr.heap.size), 1, none⟩)) 21 = (.pointer (some ⟨(wr.heap.size), 1, none⟩)) := upd_sameG _ _ _
            have U22 : updG us 21 (.pointer (some ⟨(wr.heap.size), 1, none⟩)) 22 = us 22 := upd_otherG (by decide)
            have U23 : updG us 21 (.pointer (some ⟨(wr.heap.size), 1, none⟩)) 23 = us 23 := upd_otherG (by decide)
            have U24 : updG us 21 (.pointer (some ⟨(wr.heap.size), 1, none⟩)) 24 = us 24 := upd_otherG (by decide)
            have U25 : updG us 21 (.pointer (some ⟨(wr.heap.size), 1, none⟩)) 25 = us 25 := upd_otherG (by decide)
            have U26 : updG us 21 (.pointer (some ⟨(wr.heap.size), 1, none⟩)) 26 = us 26 := upd_otherG (by decide)
            have U27 : updG us 21 (.pointer (some ⟨(wr.heap.size), 1, none⟩)) 27 = us 27 := upd_otherG (by decide)
            have U28 : updG us 21 (.pointer (some ⟨(wr.heap.size), 1, none⟩)) 28 = us 28 := upd_otherG (by decide)
            have U29 : updG us 21 (.pointer (some ⟨(wr.heap.size), 1, none⟩)) 29 = us 29 := upd_otherG (by decide)
            have U30 : updG us 21 (.pointer (some ⟨(wr.heap.size), 1, none⟩)) 30 = us 30 := upd_otherG (by decide)
            have U31 : updG us 21 (.pointer (some ⟨(wr.heap.size), 1, none⟩)) 31 = us 31 := upd_otherG (by decide)
            have U33 : updG us 21 (.pointer (some ⟨(wr.heap.size), 1, none⟩)) 33 = us 33 := upd_otherG (by decide)
            have U34 : updG us 21 (.pointer (some ⟨(wr.heap.size), 1, none⟩)) 34 = us 34 := upd_otherG (by decide)
            refine wpOp_step rfl (fun K hK => ?_)
            simp only [frVt, e0, e1, e5, e33, e34, e7, e8, e9, e10, e2, e3, e6, e11, e12, e13, e4]
            go_simp
            refine hK _ _ ⟨updG us 21 (.pointer (some ⟨(wr.heap.size), 1, none⟩)), by simp [frVt, updG, e0, e1, e5, e33, e34, e7, e8, e9, e10, e2, e3, e6, e11, e12, e13, e4], { u0 := (U0.trans I.u0), u1 := (U1.trans I.u1), u5 := (U5.trans I.u5), u33 := (U33.trans I.u33), u34 := (U34.trans I.u34), u7 := (U7.trans I.u7), u8 := (U8.trans I.u8), u9 := (U9.trans I.u9), u10 := (U10.trans I.u10), u2 := (U2.trans I.u2), u3 := (U3.trans I.u3), u6 := (U6.trans I.u6), u11 := (U11.trans I.u11), u12 := (U12.trans I.u12), u13 := (U13.trans I.u13), u4 := (fun h => U4.trans (I.u4 (D15.symm.trans h))), bel := (fun _ => hbel), belo := (I.belo), allR := (fun h => absurd (D14.symm.trans h) (by rw [F14]; exact Bool.false_ne_true)), allL := (fun h => absurd (D15.symm.trans h) (by rw [F15]; exact Bool.false_ne_true)), o0 := (fun h => U17.trans (I.o0 (D0.symm.trans h))), o1 := (fun h => U18.trans (I.o1 (D1.symm.trans h))), p2 := (fun h => by have hh := I.p2 (D2.symm.trans h); exact D1.trans hh), o2 := (fun h => U19.trans (I.o2 (D2.symm.trans h))), p3 := (fun h => by have hh := I.p3 (D3.symm.trans h); exact D2.trans hh), o3 := (fun h => U20.trans (I.o3 (D3.symm.trans h))), o4 := (fun _ => U21), p5 := (fun h => by have hh := I.p5 (D5.symm.trans h); exact D4), o5 := (fun h => U22.trans (I.o5 (D5.symm.trans h))), p6 := (fun h => by have hh := I.p6 (D6.symm.trans h); exact D5.trans hh), o6 := (fun h => U23.trans (I.o6 (D6.symm.trans h))), p7 := (fun h => by have hh := I.p7 (D7.symm.trans h); exact ⟨D3.trans hh.1, D6.trans hh.2⟩), o7 := (fun h => U24.trans (I.o7 (D7.symm.trans h))), p8 := (fun h => by have hh := I.p8 (D8.symm.trans h); exact D7.trans hh), o8 := (fun h => U25.trans (I.o8 (D8.symm.trans h))), o9 := (fun h => U26.trans (I.o9 (D9.symm.trans h))), p10 := (fun h => by have hh := I.p10 (D10.symm.trans h); exact D9.trans hh), o10 := (fun h => U27.trans (I.o10 (D10.symm.trans h))), p11 := (fun h => by have hh := I.p11 (D11.symm.trans h); exact D10.trans hh), o11 := (fun h => U28.trans (I.o11 (D11.symm.trans h))), p12 := (fun h => by have hh := I.p12 (D12.symm.trans h); exact ⟨D8.trans hh.1, D11.trans hh.2⟩), o12 := (fun h => U29.trans (I.o12 (D12.symm.trans h))), p13 := (fun h => by have hh := I.p13 (D13.symm.trans h); exact D12.trans hh), o13 := (fun h h2 => by rw [U30]; exact I.o13 (D13.symm.trans h) (D14.symm.trans h2)), o14 := (fun h => absurd (D14.symm.trans h) (by rw [F14]; exact Bool.false_ne_true)), o15 := (fun h => absurd (D15.symm.trans h) (by rw [F15]; exact Bool.false_ne_true)) }⟩
          · skip
            have D0 : (d.setIfInBounds 5 true).getD 0 false = d.getD 0 false := getD_set_ne false (by decide)
            have D1 : (d.setIfInBounds 5 true).getD 1 false = d.getD 1 false := getD_set_ne false (by decide)
            have D2 : (d.setIfInBounds 5 true).getD 2 false = d.getD 2 false := getD_set_ne false (by decide)
            have D3 : (d.setIfInBounds 5 true).getD 3 false = d.getD 3 false := getD_set_ne false (by decide)
            have D4 : (d.setIfInBounds 5 true).getD 4 false = d.getD 4 false := getD_set_ne false (by decide)
            have D5 : (d.setIfInBounds 5 true).getD 5 false = true := getD_setG hun
            have D6 : (d.setIfInBounds 5 true).getD 6 false = d.getD 6 false := getD_set_ne false (by decide)
            have D7 : (d.setIfInBounds 5 true).getD 7 false = d.getD 7 false := getD_set_ne false (by decide)
            have D8 : (d.setIfInBounds 5 true).getD 8 false = d.getD 8 false := getD_set_ne false (by decide)
            have D9 : (d.setIfInBounds 5 true).getD 9 false = d.getD 9 false := getD_set_ne false (by decide)
            have D10 : (d.setIfInBounds 5 true).getD 10 false = d.getD 10 false := getD_set_ne false (by decide)
            have D11 : (d.setIfInBounds 5 true).getD 11 false = d.getD 11 false := getD_set_ne false (by decide)
            have D12 : (d.setIfInBounds 5 true).getD 12 false = d.getD 12 false := getD_set_ne false (by decide)
            have D13 : (d.setIfInBounds 5 true).getD 13 false = d.getD 13 false := getD_set_ne false (by decide)
            have D14 : (d.setIfInBounds 5 true).getD 14 false = d.getD 14 false := getD_set_ne false (by decide)
            have D15 : (d.setIfInBounds 5 true).getD 15 false = d.getD 15 false := getD_set_ne false (by decide)
            have F5 := getD_tfG hun
            have F15 : d.getD 15 false = false := by
              cases hh : d.getD 15 false with
              | false => rfl
              | true => have := I.allL hh 5 (by decide); rw [F5] at this; cases this
            have e4 := I.u4 F15
            have F14 : d.getD 14 false = false := by
              cases hh : d.getD 14 false with
              | false => rfl
              | true => have := I.allR hh 5 (by decide); rw [F5] at this; cases this
            have hbel := I.bel F14
            have hsz : wq.heap.size ≤ W.heap.size := hbel.size
            have hTab := hT.below hbel
            have hbx := (kb.step hbel).cells
            have c0 := hbx.c0
            have c1 := hbx.c1
            have c2 := hbx.c2
            have h4 := hall ⟨4, .data⟩ (by simp) rfl
            have e21 := I.o4 h4
            have U0 : updG us 22 (.int .i64 p.i) 0 = us 0 := upd_otherG (by decide)
            have U1 : updG us 22 (.int .i64 p.i) 1 = us 1 := upd_otherG (by decide)
            have U2 : updG us 22 (.int .i64 p.i) 2 = us 2 := upd_otherG (by decide)
            have U3 : updG us 22 (.int .i64 p.i) 3 = us 3 := upd_otherG (by decide)
            have U4 : updG us 22 (.int .i64 p.i) 4 = us 4 := upd_otherG (by decide)
            have U5 : updG us 22 (.int .i64 p.i) 5 = us 5 := upd_otherG (by decide)
            have U6 : updG us 22 (.int .i64 p.i) 6 = us 6 := upd_otherG (by decide)
            have U7 : updG us 22 (.int .i64 p.i) 7 = us 7 := upd_otherG (by decide)
            have U8 : updG us 22 (.int .i64 p.i) 8 = us 8 := upd_otherG (by decide)
            have U9 : updG us 22 (.int .i64 p.i) 9 = us 9 := upd_otherG (by decide)
            have U10 : updG us 22 (.int .i64 p.i) 10 = us 10 := upd_otherG (by decide)
            have U11 : updG us 22 (.int .i64 p.i) 11 = us 11 := upd_otherG (by decide)
            have U12 : updG us 22 (.int .i64 p.i) 12 = us 12 := upd_otherG (by decide)
            have U13 : updG us 22 (.int .i64 p.i) 13 = us 13 := upd_otherG (by decide)
            have U17 : updG us 22 (.int .i64 p.i) 17 = us 17 := upd_otherG (by decide)
            have U18 : updG us 22 (.int .i64 p.i) 18 = us 18 := upd_otherG (by decide)
            have U19 : updG us 22 (.int .i64 p.i) 19 = us 19 := upd_otherG (by decide)
            have U20 : updG us 22 (.int .i64 p.i) 20 = us 20 := upd_otherG (by decide)
            have U21 : updG us 22 (.int .i64 p.i) 21 = us 21 := upd_otherG (by decide)
            have U22 : updG us 22 (.int .i64 p.i) 22 = (.int .i64 p.i) := upd_sameG _ _ _
            have U23 : updG us 22 (.int .i64 p.i) 23 = us 23 := upd_otherG (by decide)
            have U24 : updG us 22 (.int .i64 p.i) 24 = us 24 := upd_otherG (by decide)
            have U25 : updG us 22 (.int .i64 p.i) 25 = us 25 := upd_otherG (by decide)
            have U26 : updG us 22 (.int .i64 p.i) 26 = us 26 := upd_otherG (by decide)
            have U27 : updG us 22 (.int .i64 p.i) 27 = us 27 := upd_otherG (by decide)
            have U28 : updG us 22 (.int .i64 p.i) 28 = us 28 := upd_otherG (by decide)
            have U29 : updG us 22 (.int .i64 p.i) 29 = us 29 := upd_otherG (by decide)
            have U30 : updG us 22 (.int .i64 p.i) 30 = us 30 := upd_otherG (by decide)
            have U31 : updG us 22 (.int .i64 p.i) 31 = us 31 := upd_otherG (by decide)
            have U33 : updG us 22 (.int .i64 p.i) 33 = us 33 := upd_otherG (by decide)
            have U34 : updG us 22 (.int .i64 p.i) 34 = us 34 := upd_otherG (by decide)
            refine wpOp_step rfl (fun K hK => ?_)
            simp only [frVt, e0, e1, e5, e33, e34, e7, e8, e9, e10, e2, e3, e6, e11, e12, e13, e4, e21]
            go_simp
            refine hK _ _ ⟨updG us 22 (.int .i64 p.i), by simp [frVt, updG, e0, e1, e5, e33, e34, e7, e8, e9, e10, e2, e3, e6, e11, e12, e13, e4, e21], { u0 := (U0.trans I.u0), u1 := (U1.trans I.u1), u5 := (U5.trans I.u5), u33 := (U33.trans I.u33), u34 := (U34.trans I.u34), u7 := (U7.trans I.u7), u8 := (U8.trans I.u8), u9 := (U9.trans I.u9), u10 := (U10.trans I.u10), u2 := (U2.trans I.u2), u3 := (U3.trans I.u3), u6 := (U6.trans I.u6), u11 := (U11.trans I.u11), u12 := (U12.trans I.u12), u13 := (U13.trans I.u13), u4 := (fun h => U4.trans (I.u4 (D15.symm.trans h))), bel := (fun _ => hbel), belo := (I.belo), allR := (fun h => absurd (D14.symm.trans h) (by rw [F14]; exact Bool.false_ne_true)), allL := (fun h => absurd (D15.symm.trans h) (by rw [F15]; exact Bool.false_ne_true)), o0 := (fun h => U17.trans (I.o0 (D0.symm.trans h))), o1 := (fun h => U18.trans (I.o1 (D1.symm.trans h))), p2 := (fun h => by have hh := I.p2 (D2.symm.trans h); exact D1.trans hh), o2 := (fun h => U19.trans (I.o2 (D2.symm.trans h))), p3 := (fun h => by have hh := I.p3 (D3.symm.trans h); exact D2.trans hh), o3 := (fun h => U20.trans (I.o3 (D3.symm.trans h))), o4 := (fun h => U21.trans (I.o4 (D4.symm.trans h))), p5 := (fun _ => D4.trans h4), o5 := (fun _ => U22), p6 := (fun h => by have hh := I.p6 (D6.symm.trans h); exact D5), o6 := (fun h => U23.trans (I.o6 (D6.symm.trans h))), p7 := (fun h => by have hh := I.p7 (D7.symm.trans h); exact ⟨D3.trans hh.1, D6.trans hh.2⟩), o7 := (fun h => U24.trans (I.o7 (D7.symm.trans h))), p8 := (fun h => by have hh := I.p8 (D8.symm.trans h); exact D7.trans hh), o8 := (fun h => U25.trans (I.o8 (D8.symm.trans h))), o9 := (fun h => U26.trans (I.o9 (D9.symm.trans h))), p10 := (fun h => by have hh := I.p10 (D10.symm.trans h); exact D9.trans hh), o10 := (fun h => U27.trans (I.o10 (D10.symm.trans h))), p11 := (fun h => by have hh := I.p11 (D11.symm.trans h); exact D10.trans hh), o11 := (fun h => U28.trans (I.o11 (D11.symm.trans h))), p12 := (fun h => by have hh := I.p12 (D12.symm.trans h); exact ⟨D8.trans hh.1, D11.trans hh.2⟩), o12 := (fun h => U29.trans (I.o12 (D12.symm.trans h))), p13 := (fun h => by have hh := I.p13 (D13.symm.trans h); exact D12.trans hh), o13 := (fun h h2 => by rw [U30]; exact I.o13 (D13.symm.trans h) (D14.symm.trans h2)), o14 := (fun h => absurd (D14.symm.trans h) (by rw [F14]; exact Bool.false_ne_true)), o15 := (fun h => absurd (D15.symm.trans h) (by rw [F15]; exact Bool.false_ne_true)) }⟩
          · skip
            have D0 : (d.setIfInBounds 6 true).getD 0 false = d.getD 0 false := getD_set_ne false (by decide)
            have D1 : (d.setIfInBounds 6 true).getD 1 false = d.getD 1 false := getD_set_ne false (by decide)
            have D2 : (d.setIfInBounds 6 true).getD 2 false = d.getD 2 false := getD_set_ne false (by decide)
            have D3 : (d.setIfInBounds 6 true).getD 3 false = d.getD 3 false := getD_set_ne false (by decide)
            have D4 : (d.setIfInBounds 6 true).getD 4 false = d.getD 4 false := getD_set_ne false (by decide)
            have D5 : (d.setIfInBounds 6 true).getD 5 false = d.getD 5 false := getD_set_ne false (by decide)
            have D6 : (d.setIfInBounds 6 true).getD 6 false = true := getD_setG hun
            have D7 : (d.setIfInBounds 6 true).getD 7 false = d.getD 7 false := getD_set_ne false (by decide)
            have D8 : (d.setIfInBounds 6 true).getD 8 false = d.getD 8 false := getD_set_ne false (by decide)
            have D9 : (d.setIfInBounds 6 true).getD 9 false = d.getD 9 false := getD_set_ne false (by decide)
            have D10 : (d.setIfInBounds 6 true).getD 10 false = d.getD 10 false := getD_set_ne false (by decide)
            have D11 : (d.setIfInBounds 6 true).getD 11 false = d.getD 11 false := getD_set_ne false (by decide)
            have D12 : (d.setIfInBounds 6 true).getD 12 false = d.getD 12 false := getD_set_ne false (by decide)
            have D13 : (d.setIfInBounds 6 true).getD 13 false = d.getD 13 false := getD_set_ne false (by decide)
            have D14 : (d.setIfInBounds 6 true).getD 14 false = d.getD 14 false := getD_set_ne false (by decide)
            have D15 : (d.setIfInBounds 6 true).getD 15 false = d.getD 15 false := getD_set_ne false (by decide)
            have F6 := getD_tfG hun
            have F15 : d.getD 15 false = false := by
              cases hh : d.getD 15 false with
              | false => rfl
              | true => have := I.allL hh 6 (by decide); rw [F6] at this; cases this
            have e4 := I.u4 F15
            have F14 : d.getD 14 false = false := by
              cases hh : d.getD 14 false with
              | false => rfl
              | true => have := I.allR hh 6 (by decide); rw [F6] at this; cases this
            have hbel := I.bel F14
            have hsz : wq.heap.size ≤ W.heap.size := hbel.size
            have hTab := hT.below hbel
            have hbx := (kb.step hbel).cells
            have c0 := hbx.c0
            have c1 := hbx.c1
            have c2 := hbx.c2
            have h5 := hall ⟨5, .data⟩ (by simp) rfl
            have e22 := I.o5 h5
            have U0 : updG us 23 (.string ⟨X1.toArray⟩) 0 = us 0 := upd_otherG (by decide)
            have U1 : updG us 23 (.string ⟨X1.toArray⟩) 1 = us 1 := upd_otherG (by decide)
            have U2 : updG us 23 (.string ⟨X1.toArray⟩) 2 = us 2 := upd_otherG (by decide)
            have U3 : updG us 23 (.string ⟨X1.toArray⟩) 3 = us 3 := upd_otherG (by decide)
            have U4 : updG us 23 (.string ⟨X1.toArray⟩) 4 = us 4 := upd_otherG (by decide)
            have U5 : updG us 23 (.string ⟨X1.toArray⟩) 5 = us 5 := upd_otherG (by decide)
            have U6 : updG us 23 (.string ⟨X1.toArray⟩) 6 = us 6 := upd_otherG (by decide)
            have U7 : updG us 23 (.string ⟨X1.toArray⟩) 7 = us 7 := upd_otherG (by decide)
            have U8 : updG us 23 (.string ⟨X1.toArray⟩) 8 = us 8 := upd_otherG (by decide)
            have U9 : updG us 23 (.string ⟨X1.toArray⟩) 9 = us 9 := upd_otherG (by decide)
            have U10 : updG us 23 (.string ⟨X1.toArray⟩) 10 = us 10 := upd_otherG (by decide)
            have U11 : updG us 23 (.string ⟨X1.toArray⟩) 11 = us 11 := upd_otherG (by decide)
            have U12 : updG us 23 (.string ⟨X1.toArray⟩) 12 = us 12 := upd_otherG (by decide)
            have U13 : updG us 23 (.string ⟨X1.toArray⟩) 13 = us 13 := upd_otherG (by decide)
            have U17 : updG us 23 (.string ⟨X1.toArray⟩) 17 = us 17 := upd_otherG (by decide)
            have U18 : updG us 23 (.string ⟨X1.toArray⟩) 18 = us 18 := upd_otherG (by decide)
            have U19 : updG us 23 (.string ⟨X1.toArray⟩) 19 = us 19 := upd_otherG (by decide)
            have U20 : updG us 23 (.string ⟨X1.toArray⟩) 20 = us 20 := upd_otherG (by decide)
            have U21 : updG us 23 (.string ⟨X1.toArray⟩) 21 = us 21 := upd_otherG (by decide)
            have U22 : updG us 23 (.string ⟨X1.toArray⟩) 22 = us 22 := upd_otherG (by decide)
            have U23 : updG us 23 (.string ⟨X1.toArray⟩) 23 = (.string ⟨X1.toArray⟩) := upd_sameG _ _ _
            have U24 : updG us 23 (.string ⟨X1.toArray⟩) 24 = us 24 := upd_otherG (by decide)
            have U25 : updG us 23 (.string ⟨X1.toArray⟩) 25 = us 25 := upd_otherG (by decide)
            have U26 : updG us 23 (.string ⟨X1.toArray⟩) 26 = us 26 := upd_otherG (by decide)
            have U27 : updG us 23 (.string ⟨X1.toArray⟩) 27 = us 27 := upd_otherG (by decide)
            have U28 : updG us 23 (.string ⟨X1.toArray⟩) 28 = us 28 := upd_otherG (by decide)
            have U29 : updG us 23 (.string ⟨X1.toArray⟩) 29 = us 29 := upd_otherG (by decide)
            have U30 : updG us 23 (.string ⟨X1.toArray⟩) 30 = us 30 := upd_otherG (by decide)
            have U31 : updG us 23 (.string ⟨X1.toArray⟩) 31 = us 31 := upd_otherG (by decide)
            have U33 : updG us 23 (.string ⟨X1.toArray⟩) 33 = us 33 := upd_otherG (by decide)
            have U34 : updG us 23 (.string ⟨X1.toArray⟩) 34 = us 34 := upd_otherG (by decide)
            refine wpOp_step rfl (fun K hK => ?_)
            simp only [frVt, e0, e1, e5, e33, e34, e7, e8, e9, e10, e2, e3, e6, e11, e12, e13, e4, e22]
            go_simp
            go_wp2_with (go_at_call 19; refine (HF1.out W hTab).mono ?_; rintro e w2 ⟨rfl, hb2⟩)
            exact ⟨updG us 23 (.string ⟨X1.toArray⟩), by simp [frVt, updG, e0, e1, e5, e33, e34, e7, e8, e9, e10, e2, e3, e6, e11, e12, e13, e4, e22], { u0 := (U0.trans I.u0), u1 := (U1.trans I.u1), u5 := (U5.trans I.u5), u33 := (U33.trans I.u33), u34 := (U34.trans I.u34), u7 := (U7.trans I.u7), u8 := (U8.trans I.u8), u9 := (U9.trans I.u9), u10 := (U10.trans I.u10), u2 := (U2.trans I.u2), u3 := (U3.trans I.u3), u6 := (U6.trans I.u6), u11 := (U11.trans I.u11), u12 := (U12.trans I.u12), u13 := (U13.trans I.u13), u4 := (fun h => U4.trans (I.u4 (D15.symm.trans h))), bel := (fun _ => hbel.trans (hb2.mono hsz)), belo := (I.belo.trans (hb2.mono (Nat.le_trans hlo hsz))), allR := (fun h => absurd (D14.symm.trans h) (by rw [F14]; exact Bool.false_ne_true)), allL := (fun h => absurd (D15.symm.trans h) (by rw [F15]; exact Bool.false_ne_true)), o0 := (fun h => U17.trans (I.o0 (D0.symm.trans h))), o1 := (fun h => U18.trans (I.o1 (D1.symm.trans h))), p2 := (fun h => by have hh := I.p2 (D2.symm.trans h); exact D1.trans hh), o2 := (fun h => U19.trans (I.o2 (D2.symm.trans h))), p3 := (fun h => by have hh := I.p3 (D3.symm.trans h); exact D2.trans hh), o3 := (fun h => U20.trans (I.o3 (D3.symm.trans h))), o4 := (fun h => U21.trans (I.o4 (D4.symm.trans h))), p5 := (fun h => by have hh := I.p5 (D5.symm.trans h); exact D4.trans hh), o5 := (fun h => U22.trans (I.o5 (D5.symm.trans h))), p6 := (fun _ => D5.trans h5), o6 := (fun _ => U23), p7 := (fun h => by have hh := I.p7 (D7.symm.trans h); exact ⟨D3.trans hh.1, D6⟩), o7 := (fun h => U24.trans (I.o7 (D7.symm.trans h))), p8 := (fun h => by have hh := I.p8 (D8.symm.trans h); exact D7.trans hh), o8 := (fun h => U25.trans (I.o8 (D8.symm.trans h))), o9 := (fun h => U26.trans (I.o9 (D9.symm.trans h))), p10 := (fun h => by have hh := I.p10 (D10.symm.trans h); exact D9.trans hh), o10 := (fun h => U27.trans (I.o10 (D10.symm.trans h))), p11 := (fun h => by have hh := I.p11 (D11.symm.trans h); exact D10.trans hh), o11 := (fun h => U28.trans (I.o11 (D11.symm.trans h))), p12 := (fun h => by have hh := I.p12 (D12.symm.trans h); exact ⟨D8.trans hh.1, D11.trans hh.2⟩), o12 := (fun h => U29.trans (I.o12 (D12.symm.trans h))), p13 := (fun h => by have hh := I.p13 (D13.symm.trans h); exact D12.trans hh), o13 := (fun h h2 => by rw [U30]; obtain ⟨B2, g1, g2, g3⟩ := I.o13 (D13.symm.trans h) (D14.symm.trans h2); exact ⟨B2, g1, (hb2.block B2 (lt_some g2)).trans g2, g3⟩), o14 := (fun h => absurd (D14.symm.trans h) (by rw [F14]; exact Bool.false_ne_true)), o15 := (fun h => absurd (D15.symm.trans h) (by rw [F15]; exact Bool.false_ne_true)) }⟩
          · skip
            have D0 : (d.setIfInBounds 7 true).getD 0 false = d.getD 0 false := getD_set_ne false (by decide)
            have D1 : (d.setIfInBounds 7 true).getD 1 false = d.getD 1 false := getD_set_ne false (by decide)
            have D2 : (d.setIfInBounds 7 true).getD 2 false = d.getD 2 false := getD_set_ne false (by decide)
            have D3 : (d.setIfInBounds 7 true).getD 3 false = d.getD 3 false := getD_set_ne false (by decide)
            have D4 : (d.setIfInBounds 7 true).getD 4 false = d.getD 4 false := getD_set_ne false (by decide)
            have D5 : (d.setIfInBounds 7 true).getD 5 false = d.getD 5 false := getD_set_ne false (by decide)
            have D6 : (d.setIfInBounds 7 true).getD 6 false = d.getD 6 false := getD_set_ne false (by decide)
            have D7 : (d.setIfInBounds 7 true).getD 7 false = true := getD_setG hun
            have D8 : (d.setIfInBounds 7 true).getD 8 false = d.getD 8 false := getD_set_ne false (by decide)
            have D9 : (d.setIfInBounds 7 true).getD 9 false = d.getD 9 false := getD_set_ne false (by decide)
            have D10 : (d.setIfInBounds 7 true).getD 10 false = d.getD 10 false := getD_set_ne false (by decide)
            have D11 : (d.setIfInBounds 7 true).getD 11 false = d.getD 11 false := getD_set_ne false (by decide)
            have D12 : (d.setIfInBounds 7 true).getD 12 false = d.getD 12 false := getD_set_ne false (by decide)
            have D13 : (d.setIfInBounds 7 true).getD 13 false = d.getD 13 false := getD_set_ne false (by decide)
            have D14 : (d.setIfInBounds 7 true).getD 14 false = d.getD 14 false := getD_set_ne false (by decide)
            have D15 : (d.setIfInBounds 7 true).getD 15 false = d.getD 15 false := getD_set_ne false (by decide)
            have F7 := getD_tfG hun
            have F15 : d.getD 15 false = false := by
              cases hh : d.getD 15 false with
              | false => rfl
              | true => have := I.allL hh 7 (by decide); rw [F7] at this; cases this
            have e4 := I.u4 F15
            have F14 : d.getD 14 false = false := by
              cases hh : d.getD 14 false with
              | false => rfl
              | true => have := I.allR hh 7 (by decide); rw [F7] at this; cases this
            have hbel := I.bel F14
            have hsz : wq.heap.size ≤ W.heap.size := hbel.size
            have hTab := hT.below hbel
            have hbx := (kb.step hbel).cells
            have c0 := hbx.c0
            have c1 := hbx.c1
            have c2 := hbx.c2
            have h3 := hall ⟨3, .data⟩ (by simp) rfl
            have e20 := I.o3 h3
            have h6 := hall ⟨6, .data⟩ (by simp) rfl
            have e23 := I.o6 h6
            have U0 : updG us 24 (.string ⟨t2.toArray⟩) 0 = us 0 := upd_otherG (by decide)
            have U1 : updG us 24 (.string ⟨t2.toArray⟩) 1 = us 1 := upd_otherG (by decide)
            have U2 : updG us 24 (.string ⟨t2.toArray⟩) 2 = us 2 := upd_otherG (by decide)
            have U3 : updG us 24 (.string ⟨t2.toArray⟩) 3 = us 3 := upd_otherG (by decide)
            have U4 : updG us 24 (.string ⟨t2.toArray⟩) 4 = us 4 := upd_otherG (by decide)
            have U5 : updG us 24 (.string ⟨t2.toArray⟩) 5 = us 5 := upd_otherG (by decide)
            have U6 : updG us 24 (.string ⟨t2.toArray⟩) 6 = us 6 := upd_otherG (by decide)
            have U7 : updG us 24 (.string ⟨t2.toArray⟩) 7 = us 7 := upd_otherG (by decide)
            have U8 : updG us 24 (.string ⟨t2.toArray⟩) 8 = us 8 := upd_otherG (by decide)
            have U9 : updG us 24 (.string ⟨t2.toArray⟩) 9 = us 9 := upd_otherG (by decide)
            have U10 : updG us 24 (.string ⟨t2.toArray⟩) 10 = us 10 := upd_otherG (by decide)
            have U11 : updG us 24 (.string ⟨t2.toArray⟩) 11 = us 11 := upd_otherG (by decide)
            have U12 : updG us 24 (.string ⟨t2.toArray⟩) 12 = us 12 := upd_otherG (by decide)
            have U13 : updG us 24 (.string ⟨t2.toArray⟩) 13 = us 13 := upd_otherG (by decide)
            have U17 : updG us 24 (.string ⟨t2.toArray⟩) 17 = us 17 := upd_otherG (by decide)
            have U18 : updG us 24 (.string ⟨t2.toArray⟩) 18 = us 18 := upd_otherG (by decide)
            have U19 : updG us 24 (.string ⟨t2.toArray⟩) 19 = us 19 := upd_otherG (by decide)
            have U20 : updG us 24 (.string ⟨t2.toArray⟩) 20 = us 20 := upd_otherG (by decide)
            have U21 : updG us 24 (.string ⟨t2.toArray⟩) 21 = us 21 := upd_otherG (by decide)
            have U22 : updG us 24 (.string ⟨t2.toArray⟩) 22 = us 22 := upd_otherG (by decide)
            have U23 : updG us 24 (.string ⟨t2.toArray⟩) 23 = us 23 := upd_otherG (by decide)
            have U24 : updG us 24 (.string ⟨t2.toArray⟩) 24 = (.string ⟨t2.toArray⟩) := upd_sameG _ _ _
            have U25 : updG us 24 (.string ⟨t2.toArray⟩) 25 = us 25 := upd_otherG (by decide)
            have U26 : updG us 24 (.string ⟨t2.toArray⟩) 26 = us 26 := upd_otherG (by decide)
            have U27 : updG us 24 (.string ⟨t2.toArray⟩) 27 = us 27 := upd_otherG (by decide)
            have U28 : updG us 24 (.string ⟨t2.toArray⟩) 28 = us 28 := upd_otherG (by decide)
            have U29 : updG us 24 (.string ⟨t2.toArray⟩) 29 = us 29 := upd_otherG (by decide)
            have U30 : updG us 24 (.string ⟨t2.toArray⟩) 30 = us 30 := upd_otherG (by decide)
            have U31 : updG us 24 (.string ⟨t2.toArray⟩) 31 = us 31 := upd_otherG (by decide)
            have U33 : updG us 24 (.string ⟨t2.toArray⟩) 33 = us 33 := upd_otherG (by decide)
            have U34 : updG us 24 (.string ⟨t2.toArray⟩) 34 = us 34 := upd_otherG (by decide)
            refine wpOp_step rfl (fun K hK => ?_)
            simp only [frVt, e0, e1, e5, e33, e34, e7, e8, e9, e10, e2, e3, e6, e11, e12, e13, e4, e20, e23]
            go_simp
            refine hK _ _ ⟨updG us 24 (.string ⟨t2.toArray⟩), by simp [frVt, updG, e0, e1, e5, e33, e34, e7, e8, e9, e10, e2, e3, e6, e11, e12, e13, e4, e20, e23, s2], { u0 := (U0.trans I.u0), u1 := (U1.trans I.u1), u5 := (U5.trans I.u5), u33 := (U33.trans I.u33), u34 := (U34.trans I.u34), u7 := (U7.trans I.u7), u8 := (U8.trans I.u8), u9 := (U9.trans I.u9), u10 := (U10.trans I.u10), u2 := (U2.trans I.u2), u3 := (U3.trans I.u3), u6 := (U6.trans I.u6), u11 := (U11.trans I.u11), u12 := (U12.trans I.u12), u13 := (U13.trans I.u13), u4 := (fun h => U4.trans (I.u4 (D15.symm.trans h))), bel := (fun _ => hbel), belo := (I.belo), allR := (fun h => absurd (D14.symm.trans h) (by rw [F14]; exact Bool.false_ne_true)), allL := (fun h => absurd (D15.symm.trans h) (by rw [F15]; exact Bool.false_ne_true)), o0 := (fun h => U17.trans (I.o0 (D0.symm.trans h))), o1 := (fun h => U18.trans (I.o1 (D1.symm.trans h))), p2 := (fun h => by have hh := I.p2 (D2.symm.trans h); exact D1.trans hh), o2 := (fun h => U19.trans (I.o2 (D2.symm.trans h))), p3 := (fun h => by have hh := I.p3 (D3.symm.trans h); exact D2.trans hh), o3 := (fun h => U20.trans (I.o3 (D3.symm.trans h))), o4 := (fun h => U21.trans (I.o4 (D4.symm.trans h))), p5 := (fun h => by have hh := I.p5 (D5.symm.trans h); exact D4.trans hh), o5 := (fun h => U22.trans (I.o5 (D5.symm.trans h))), p6 := (fun h => by have hh := I.p6 (D6.symm.trans h); exact D5.trans hh), o6 := (fun h => U23.trans (I.o6 (D6.symm.trans h))), p7 := (fun _ => ⟨D3.trans h3, D6.trans h6⟩), o7 := (fun _ => U24), p8 := (fun h => by have hh := I.p8 (D8.symm.trans h); exact D7), o8 := (fun h => U25.trans (I.o8 (D8.symm.trans h))), o9 := (fun h => U26.trans (I.o9 (D9.symm.trans h))), p10 := (fun h => by have hh := I.p10 (D10.symm.trans h); exact D9.trans hh), o10 := (fun h => U27.trans (I.o10 (D10.symm.trans h))), p11 := (fun h => by have hh := I.p11 (D11.symm.trans h); exact D10.trans hh), o11 := (fun h => U28.trans (I.o11 (D11.symm.trans h))), p12 := (fun h => by have hh := I.p12 (D12.symm.trans h); exact ⟨D8.trans hh.1, D11.trans hh.2⟩), o12 := (fun h => U29.trans (I.o12 (D12.symm.trans h))), p13 := (fun h => by have hh := I.p13 (D13.symm.trans h); exact D12.trans hh), o13 := (fun h h2 => by rw [U30]; exact I.o13 (D13.symm.trans h) (D14.symm.trans h2)), o14 := (fun h => absurd (D14.symm.trans h) (by rw [F14]; exact Bool.false_ne_true)), o15 := (fun h => absurd (D15.symm.trans h) (by rw [F15]; exact Bool.false_ne_true)) }⟩
          · skip
            have D0 : (d.setIfInBounds 8 true).getD 0 false = d.getD 0 false := getD_set_ne false (by decide)
            have D1 : (d.setIfInBounds 8 true).getD 1 false = d.getD 1 false := getD_set_ne false (by decide)
            have D2 : (d.setIfInBounds 8 true).getD 2 false = d.getD 2 false := getD_set_ne false (by decide)
            have D3 : (d.setIfInBounds 8 true).getD 3 false = d.getD 3 false := getD_set_ne false (by decide)
            have D4 : (d.setIfInBounds 8 true).getD 4 false = d.getD 4 false := getD_set_ne false (by decide)
            have D5 : (d.setIfInBounds 8 true).getD 5 false = d.getD 5 false := getD_set_ne false (by decide)
            have D6 : (d.setIfInBounds 8 true).getD 6 false = d.getD 6 false := getD_set_ne false (by decide)
            have D7 : (d.setIfInBounds 8 true).getD 7 false = d.getD 7 false := getD_set_ne false (by decide)
            have D8 : (d.setIfInBounds 8 true).getD 8 false = true := getD_setG hun
            have D9 : (d.setIfInBounds 8 true).getD 9 false = d.getD 9 false := getD_set_ne false (by decide)
            have D10 : (d.setIfInBounds 8 true).getD 10 false = d.getD 10 false := getD_set_ne false (by decide)
            have D11 : (d.setIfInBounds 8 true).getD 11 false = d.getD 11 false := getD_set_ne false (by decide)
            have D12 : (d.setIfInBounds 8 true).getD 12 false = d.getD 12 false := getD_set_ne false (by decide)
            have D13 : (d.setIfInBounds 8 true).getD 13 false = d.getD 13 false := getD_set_ne false (by decide)
            have D14 : (d.setIfInBounds 8 true).getD 14 false = d.getD 14 false := getD_set_ne false (by decide)
            have D15 : (d.setIfInBounds 8 true).getD 15 false = d.getD 15 false := getD_set_ne false (by decide)
            have F8 := getD_tfG hun
            have F15 : d.getD 15 false = false := by
              cases hh : d.getD 15 false with
              | false => rfl
              | true => have := I.allL hh 8 (by decide); rw [F8] at this; cases this
            have e4 := I.u4 F15
            have F14 : d.getD 14 false = false := by
              cases hh : d.getD 14 false with
              | false => rfl
              | true => have := I.allR hh 8 (by decide); rw [F8] at this; cases this
            have hbel := I.bel F14
            have hsz : wq.heap.size ≤ W.heap.size := hbel.size
            have hTab := hT.below hbel
            have hbx := (kb.step hbel).cells
            have c0 := hbx.c0
            have c1 := hbx.c1
            have c2 := hbx.c2
            have h7 := hall ⟨7, .data⟩ (by simp) rfl
            have e24 := I.o7 h7
            have U0 : updG us 25 (.string ⟨t3.toArray⟩) 0 = us 0 := upd_otherG (by decide)
            have U1 : updG us 25 (.string ⟨t3.toArray⟩) 1 = us 1 := upd_otherG (by decide)
            have U2 : updG us 25 (.string ⟨t3.toArray⟩) 2 = us 2 := upd_otherG (by decide)
            have U3 : updG us 25 (.string ⟨t3.toArray⟩) 3 = us 3 := upd_otherG (by decide)
            have U4 : updG us 25 (.string ⟨t3.toArray⟩) 4 = us 4 := upd_otherG (by decide)
            have U5 : updG us 25 (.string ⟨t3.toArray⟩) 5 = us 5 := upd_otherG (by decide)
            have U6 : updG us 25 (.string ⟨t3.toArray⟩) 6 = us 6 := upd_otherG (by decide)
            have U7 : updG us 25 (.string ⟨t3.toArray⟩) 7 = us 7 := upd_otherG (by decide)
            have U8 : updG us 25 (.string ⟨t3.toArray⟩) 8 = us 8 := upd_otherG (by decide)
            have U9 : updG us 25 (.string ⟨t3.toArray⟩) 9 = us 9 := upd_otherG (by decide)
            have U10 : updG us 25 (.string ⟨t3.toArray⟩) 10 = us 10 := upd_otherG (by decide)
            have U11 : updG us 25 (.string ⟨t3.toArray⟩) 11 = us 11 := upd_otherG (by decide)
            have U12 : updG us 25 (.string ⟨t3.toArray⟩) 12 = us 12 := upd_otherG (by decide)
            have U13 : updG us 25 (.string ⟨t3.toArray⟩) 13 = us 13 := upd_otherG (by decide)
            have U17 : updG us 25 (.string ⟨t3.toArray⟩) 17 = us 17 := upd_otherG (by decide)
            have U18 : updG us 25 (.string ⟨t3.toArray⟩) 18 = us 18 := upd_otherG (by decide)
            have U19 : updG us 25 (.string ⟨t3.toArray⟩) 19 = us 19 := upd_otherG (by decide)
            have U20 : updG us 25 (.string ⟨t3.toArray⟩) 20 = us 20 := upd_otherG (by decide)
            have U21 : updG us 25 (.string ⟨t3.toArray⟩) 21 = us 21 := upd_otherG (by decide)
            have U22 : updG us 25 (.string ⟨t3.toArray⟩) 22 = us 22 := upd_otherG (by decide)
            have U23 : updG us 25 (.string ⟨t3.toArray⟩) 23 = us 23 := upd_otherG (by decide)
            have U24 : updG us 25 (.string ⟨t3.toArray⟩) 24 = us 24 := upd_otherG (by decide)
            have U25 : updG us 25 (.string ⟨t3.toArray⟩) 25 = (.string ⟨t3.toArray⟩) := upd_sameG _ _ _
            have U26 : updG us 25 (.string ⟨t3.toArray⟩) 26 = us 26 := upd_otherG (by decide)
            have U27 : updG us 25 (.string ⟨t3.toArray⟩) 27 = us 27 := upd_otherG (by decide)
            have U28 : updG us 25 (.string ⟨t3.toArray⟩) 28 = us 28 := upd_otherG (by decide)
            have U29 : updG us 25 (.string ⟨t3.toArray⟩) 29 = us 29 := upd_otherG (by decide)
            have U30 : updG us 25 (.string ⟨t3.toArray⟩) 30 = us 30 := upd_otherG (by decide)
            have U31 : updG us 25 (.string ⟨t3.toArray⟩) 31 = us 31 := upd_otherG (by decide)
            have U33 : updG us 25 (.string ⟨t3.toArray⟩) 33 = us 33 := upd_otherG (by decide)
            have U34 : updG us 25 (.string ⟨t3.toArray⟩) 34 = us 34 := upd_otherG (by decide)
            refine wpOp_step rfl (fun K hK => ?_)
            simp only [frVt, e0, e1, e5, e33, e34, e7, e8, e9, e10, e2, e3, e6, e11, e12, e13, e4, e24]
            go_simp
            refine hK _ _ ⟨updG us 25 (.string ⟨t3.toArray⟩), by simp [frVt, updG, e0, e1, e5, e33, e34, e7, e8, e9, e10, e2, e3, e6, e11, e12, e13, e4, e24, s3], { u0 := (U0.trans I.u0), u1 := (U1.trans I.u1), u5 := (U5.trans I.u5), u33 := (U33.trans I.u33), u34 := (U34.trans I.u34), u7 := (U7.trans I.u7), u8 := (U8.trans I.u8), u9 := (U9.trans I.u9), u10 := (U10.trans I.u10), u2 := (U2.trans I.u2), u3 := (U3.trans I.u3), u6 := (U6.trans I.u6), u11 := (U11.trans I.u11), u12 := (U12.trans I.u12), u13 := (U13.trans I.u13), u4 := (fun h => U4.trans (I.u4 (D15.symm.trans h))), bel := (fun _ => hbel), belo := (I.belo), allR := (fun h => absurd (D14.symm.trans h) (by rw [F14]; exact Bool.false_ne_true)), allL := (fun h => absurd (D15.symm.trans h) (by rw [F15]; exact Bool.false_ne_true)), o0 := (fun h => U17.trans (I.o0 (D0.symm.trans h))), o1 := (fun h => U18.trans (I.o1 (D1.symm.trans h))), p2 := (fun h => by have hh := I.p2 (D2.symm.trans h); exact D1.trans hh), o2 := (fun h => U19.trans (I.o2 (D2.symm.trans h))), p3 := (fun h => by have hh := I.p3 (D3.symm.trans h); exact D2.trans hh), o3 := (fun h => U20.trans (I.o3 (D3.symm.trans h))), o4 := (fun h => U21.trans (I.o4 (D4.symm.trans h))), p5 := (fun h => by have hh := I.p5 (D5.symm.trans h); exact D4.trans hh), o5 := (fun h => U22.trans (I.o5 (D5.symm.trans h))), p6 := (fun h => by have hh := I.p6 (D6.symm.trans h); exact D5.trans hh), o6 := (fun h => U23.trans (I.o6 (D6.symm.trans h))), p7 := (fun h => by have hh := I.p7 (D7.symm.trans h); exact ⟨D3.trans hh.1, D6.trans hh.2⟩), o7 := (fun h => U24.trans (I.o7 (D7.symm.trans h))), p8 := (fun _ => D7.trans h7), o8 := (fun _ => U25), o9 := (fun h => U26.trans (I.o9 (D9.symm.trans h))), p10 := (fun h => by have hh := I.p10 (D10.symm.trans h); exact D9.trans hh), o10 := (fun h => U27.trans (I.o10 (D10.symm.trans h))), p11 := (fun h => by have hh := I.p11 (D11.symm.trans h); exact D10.trans hh), o11 := (fun h => U28.trans (I.o11 (D11.symm.trans h))), p12 := (fun h => by have hh := I.p12 (D12.symm.trans h); exact ⟨D8, D11.trans hh.2⟩), o12 := (fun h => U29.trans (I.o12 (D12.symm.trans h))), p13 := (fun h => by have hh := I.p13 (D13.symm.trans h); exact D12.trans hh), o13 := (fun h h2 => by rw [U30]; exact I.o13 (D13.symm.trans h) (D14.symm.trans h2)), o14 := (fun h => absurd (D14.symm.trans h) (by rw [F14]; exact Bool.false_ne_true)), o15 := (fun h => absurd (D15.symm.trans h) (by rw [F15]; exact Bool.false_ne_true)) }⟩
          · skip
            have D0 : (d.setIfInBounds 9 true).getD 0 false = d.getD 0 false := getD_set_ne false (by decide)
            have D1 : (d.setIfInBounds 9 true).getD 1 false = d.getD 1 false := getD_set_ne false (by decide)
            have D2 : (d.setIfInBounds 9 true).getD 2 false = d.getD 2 false := getD_set_ne false (by decide)
            have D3 : (d.setIfInBounds 9 true).getD 3 false = d.getD 3 false := getD_set_ne false (by decide)
            have D4 : (d.setIfInBounds 9 true).getD 4 false = d.getD 4 false := getD_set_ne false (by decide)
            have D5 : (d.setIfInBounds 9 true).getD 5 false = d.getD 5 false := getD_set_ne false (by decide)
            have D6 : (d.setIfInBounds 9 true).getD 6 false = d.getD 6 false := getD_set_ne false (by decide)
            have D7 : (d.setIfInBounds 9 true).getD 7 false = d.getD 7 false := getD_set_ne false (by decide)
            have D8 : (d.setIfInBounds 9 true).getD 8 false = d.getD 8 false := getD_set_ne false (by decide)
            have D9 : (d.setIfInBounds 9 true).getD 9 false = true := getD_setG hun
            have D10 : (d.setIfInBounds 9 true).getD 10 false = d.getD 10 false := getD_set_ne false (by decide)
            have D11 : (d.setIfInBounds 9 true).getD 11 false = d.getD 11 false := getD_set_ne false (by decide)
            have D12 : (d.setIfInBounds 9 true).getD 12 false = d.getD 12 false := getD_set_ne false (by decide)
            have D13 : (d.setIfInBounds 9 true).getD 13 false = d.getD 13 false := getD_set_ne false (by decide)
            have D14 : (d.setIfInBounds 9 true).getD 14 false = d.getD 14 false := getD_set_ne false (by decide)
            have D15 : (d.setIfInBounds 9 true).getD 15 false = d.getD 15 false := getD_set_ne false (by decide)
            have F9 := getD_tfG hun
            have F15 : d.getD 15 false = false := by
              cases hh : d.getD 15 false with
              | false => rfl
              | true => have := I.allL hh 9 (by decide); rw [F9] at this; cases this
            have e4 := I.u4 F15
            have F14 : d.getD 14 false = false := by
              cases hh : d.getD 14 false with
              | false => rfl
              | true => have := I.allR hh 9 (by decide); rw [F9] at this; cases this
            have hbel := I.bel F14
            have hsz : wq.heap.size ≤ W.heap.size := hbel.size
            have hTab := hT.below hbel
            have hbx := (kb.step hbel).cells
            have c0 := hbx.c0
            have c1 := hbx.c1
            have c2 := hbx.c2
            have U0 : updG us 26 (.pointer (some ⟨(wr.heap.size), 2, none⟩)) 0 = us 0 := upd_otherG (by decide)
            have U1 : updG us 26 (.pointer (some ⟨(wr.heap.size), 2, none⟩)) 1 = us 1 := upd_otherG (by decide)
            have U2 : updG us 26 (.pointer (some ⟨(wr.heap.size), 2, none⟩)) 2 = us 2 := upd_otherG (by decide)
            have U3 : updG us 26 (.pointer (some ⟨(wr.heap.size), 2, none⟩)) 3 = us 3 := upd_otherG (by decide)
            have U4 : updG us 26 (.pointer (some ⟨(wr.heap.size), 2, none⟩)) 4 = us 4 := upd_otherG (by decide)
            have U5 : updG us 26 (.pointer (some ⟨(wr.heap.size), 2, none⟩)) 5 = us 5 := upd_otherG (by decide)
            have U6 : updG us 26 (.pointer (some ⟨(wr.heap.size), 2, none⟩)) 6 = us 6 := upd_otherG (by decide)
            have U7 : updG us 26 (.pointer (some ⟨(wr.heap.size), 2, none⟩)) 7 = us 7 := upd_otherG (by decide)
            have U8 : updG us 26 (.pointer (some ⟨(wr.heap.size), 2, none⟩)) 8 = us 8 := upd_otherG (by decide)
            have U9 : updG us 26 (.pointer (some ⟨(wr.heap.size), 2, none⟩)) 9 = us 9 := upd_otherG (by decide)
            have U10 : updG us 26 (.pointer (some ⟨(wr.heap.size), 2, none⟩)) 10 = us 10 := upd_otherG (by decide)
            have U11 : updG us 26 (.pointer (some ⟨(wr.heap.size), 2, none⟩)) 11 = us 11 := upd_otherG (by decide)
            have U12 : updG us 26 (.pointer (some ⟨(wr.heap.size), 2, none⟩)) 12 = us 12 := upd_otherG (by decide)
            have U13 : updG us 26 (.pointer (some ⟨(wr.heap.size), 2, none⟩)) 13 = us 13 := upd_otherG (by decide)
            have U17 : updG us 26 (.pointer (some ⟨(wr.heap.size), 2, none⟩)) 17 = us 17 := upd_otherG (by decide)
            have U18 : updG us 26 (.pointer (some ⟨(wr.heap.size), 2, none⟩)) 18 = us 18 := upd_otherG (by decide)
            have U19 : updG us 26 (.pointer (some ⟨(wr.heap.size), 2, none⟩)) 19 = us 19 := upd_otherG (by decide)
            have U20 : updG us 26 (.pointer (some ⟨(wr.heap.size), 2, none⟩)) 20 = us 20 := upd_otherG (by decide)
            have U21 : updG us 26 (.pointer (some ⟨(wr.heap.size), 2, none⟩)) 21 = us 21 := upd_otherG (by decide)
            have U22 : updG us 26 (.pointer (some ⟨(wr.heap.size), 2, none⟩)) 22 = us 22 := upd_otherG (by decide)
            have U23 : updG us 26 (.pointer (some ⟨(wr.heap.size), 2, none⟩)) 23 = us 23 := upd_otherG (by decide)
            have U24 : updG us 26 (.pointer (some ⟨(wr.heap.size), 2, none⟩)) 24 = us 24 := upd_otherG (by decide)
            have U25 : updG us 26 (.pointer (some ⟨(wr.heap.size), 2, none⟩)) 25 = us 25 := upd_otherG (by decide)
            have U26 : updG us 26 (.pointer (some ⟨(wr.heap.size), 2, none⟩)) 26 = (.pointer (some ⟨(wr.heap.size), 2, none⟩)) := upd_sameG _ _ _
            have U27 : updG us 26 (.pointer (some ⟨(wr.heap.size), 2, none⟩)) 27 = us 27 := upd_otherG (by decide)
            have U28 : updG us 26 (.pointer (some ⟨(wr.heap.size), 2, none⟩)) 28 = us 28 := upd_otherG (by decide)
            have U29 : updG us 26 (.pointer (some ⟨(wr.heap.size), 2, none⟩)) 29 = us 29 := upd_otherG (by decide)
            have U30 : updG us 26 (.pointer (some ⟨(wr.heap.size), 2, none⟩)) 30 = us 30 := upd_otherG (by decide)
            have U31 : updG us 26 (.pointer (some ⟨(wr.heap.size), 2, none⟩)) 31 = us 31 := upd_otherG (by decide)
            have U33 : updG us 26 (.pointer (some ⟨(wr.heap.size), 2, none⟩)) 33 = us 33 := upd_otherG (by decide)
            have U34 : updG us 26 (.pointer (some ⟨(wr.heap.size), 2, none⟩)) 34 = us 34 := upd_otherG (by decide)
            refine wpOp_step rfl (fun K hK => ?_)
            simp only [frVt, e0, e1, e5, e33, e34, e7, e8, e9, e10, e2, e3, e6, e11, e12, e13, e4]
            go_simp
            refine hK _ _ ⟨updG us 26 (.pointer (some ⟨(wr.heap.size), 2, none⟩)), by simp [frVt, updG, e0, e1, e5, e33, e34, e7, e8, e9, e10, e2, e3, e6, e11, e12, e13, e4], { u0 := (U0.trans I.u0), u1 := (U1.trans I.u1), u5 := (U5.trans I.u5), u33 := (U33.trans I.u33), u34 := (U34.trans I.u34), u7 := (U7.trans I.u7), u8 := (U8.trans I.u8), u9 := (U9.trans I.u9), u10 := (U10.trans I.u10), u2 := (U2.trans I.u2), u3 := (U3.trans I.u3), u6 := (U6.trans I.u6), u11 := (U11.trans I.u11), u12 := (U12.trans I.u12), u13 := (U13.trans I.u13), u4 := (fun h => U4.trans (I.u4 (D15.symm.trans h))), bel := (fun _ => hbel), belo := (I.belo), allR := (fun h => absurd (D14.symm.trans h) (by rw [F14]; exact Bool.false_ne_true)), allL := (fun h => absurd (D15.symm.trans h) (by rw [F15]; exact Bool.false_ne_true)), o0 := (fun h => U17.trans (I.o0 (D0.symm.trans h))), o1 := (fun h => U18.trans (I.o1 (D1.symm.trans h))), p2 := (fun h => by have hh := I.p2 (D2.symm.trans h); exact D1.trans hh), o2 := (fun h => U19.trans (I.o2 (D2.symm.trans h))), p3 := (fun h => by have hh := I.p3 (D3.symm.trans h); exact D2.trans hh), o3 := (fun h => U20.trans (I.o3 (D3.symm.trans h))), o4 := (fun h => U21.trans (I.o4 (D4.symm.trans h))), p5 := (fun h => by have hh := I.p5 (D5.symm.trans h); exact D4.trans hh), o5 := (fun h => U22.trans (I.o5 (D5.symm.trans h))), p6 := (fun h => by have hh := I.p6 (D6.symm.trans h); exact D5.trans hh), o6 := (fun h => U23.trans (I.o6 (D6.symm.trans h))), p7 := (fun h => by have hh := I.p7 (D7.symm.trans h); exact ⟨D3.trans hh.1, D6.trans hh.2⟩), o7 := (fun h => U24.trans (I.o7 (D7.symm.trans h))), p8 := (fun h => by have hh := I.p8 (D8.symm.trans h); exact D7.trans hh), o8 := (fun h => U25.trans (I.o8 (D8.symm.trans h))), o9 := (fun _ => U26), p10 := (fun h => by have hh := I.p10 (D10.symm.trans h); exact D9), o10 := (fun h => U27.trans (I.o10 (D10.symm.trans h))), p11 := (fun h => by have hh := I.p11 (D11.symm.trans h); exact D10.trans hh), o11 := (fun h => U28.trans (I.o11 (D11.symm.trans h))), p12 := (fun h => by have hh := I.p12 (D12.symm.trans h); exact ⟨D8.trans hh.1, D11.trans hh.2⟩), o12 := (fun h => U29.trans (I.o12 (D12.symm.trans h))), p13 := (fun h => by have hh := I.p13 (D13.symm.trans h); exact D12.trans hh), o13 := (fun h h2 => by rw [U30]; exact I.o13 (D13.symm.trans h) (D14.symm.trans h2)), o14 := (fun h => absurd (D14.symm.trans h) (by rw [F14]; exact Bool.false_ne_true)), o15 := (fun h => absurd (D15.symm.trans h) (by rw [F15]; exact Bool.false_ne_true)) }⟩
          · skip
            have D0 : (d.setIfInBounds 10 true).getD 0 false = d.getD 0 false := getD_set_ne false (by decide)
            have D1 : (d.setIfInBounds 10 true).getD 1 false = d.getD 1 false := getD_set_ne false (by decide)
            have D2 : (d.setIfInBounds 10 true).getD 2 false = d.getD 2 false := getD_set_ne false (by decide)
            have D3 : (d.setIfInBounds 10 true).getD 3 false = d.getD 3 false := getD_set_ne false (by decide)
            have D4 : (d.setIfInBounds 10 true).getD 4 false = d.getD 4 false := getD_set_ne false (by decide)
            have D5 : (d.setIfInBounds 10 true).getD 5 false = d.getD 5 false := getD_set_ne false (by decide)
            have D6 : (d.setIfInBounds 10 true).getD 6 false = d.getD 6 false := getD_set_ne false (by decide)
            have D7 : (d.setIfInBounds 10 true).getD 7 false = d.getD 7 false := getD_set_ne false (by decide)
            have D8 : (d.setIfInBounds 10 true).getD 8 false = d.getD 8 false := getD_set_ne false (by decide)
            have D9 : (d.setIfInBounds 10 true).getD 9 false = d.getD 9 false := getD_set_ne false (by decide)
            have D10 : (d.setIfInBounds 10 true).getD 10 false = true := getD_setG hun
            have D11 : (d.setIfInBounds 10 true).getD 11 false = d.getD 11 false := getD_set_ne false (by decide)
            have D12 : (d.setIfInBounds 10 true).getD 12 false = d.getD 12 false := getD_set_ne false (by decide)
            have D13 : (d.setIfInBounds 10 true).getD 13 false = d.getD 13 false := getD_set_ne false (by decide)
            have D14 : (d.setIfInBounds 10 true).getD 14 false = d.getD 14 false := getD_set_ne false (by decide)
            have D15 : (d.setIfInBounds 10 true).getD 15 false = d.getD 15 false := getD_set_ne false (by decide)
            have F10 := getD_tfG hun
            have F15 : d.getD 15 false = false := by
              cases hh : d.getD 15 false with
              | false => rfl
              | true => have := I.allL hh 10 (by decide); rw [F10] at this; cases this
            have e4 := I.u4 F15
            have F14 : d.getD 14 false = false := by
              cases hh : d.getD 14 false with
              | false => rfl
              | true => have := I.allR hh 10 (by decide); rw [F10] at this; cases this
            have hbel := I.bel F14
            have hsz : wq.heap.size ≤ W.heap.size := hbel.size
            have hTab := hT.below hbel
            have hbx := (kb.step hbel).cells
            have c0 := hbx.c0
            have c1 := hbx.c1
            have c2 := hbx.c2
            have h9 := hall ⟨9, .data⟩ (by simp) rfl
            have e26 := I.o9 h9
            have U0 : updG us 27 (.int .i64 p.o) 0 = us 0 := upd_otherG (by decide)
            have U1 : updG us 27 (.int .i64 p.o) 1 = us 1 := upd_otherG (by decide)
            have U2 : updG us 27 (.int .i64 p.o) 2 = us 2 := upd_otherG (by decide)
            have U3 : updG us 27 (.int .i64 p.o) 3 = us 3 := upd_otherG (by decide)
            have U4 : updG us 27 (.int .i64 p.o) 4 = us 4 := upd_otherG (by decide)
            have U5 : updG us 27 (.int .i64 p.o) 5 = us 5 := upd_otherG (by decide)
            have U6 : updG us 27 (.int .i64 p.o) 6 = us 6 := upd_otherG (by decide)
            have U7 : updG us 27 (.int .i64 p.o) 7 = us 7 := upd_otherG (by decide)
            have U8 : updG us 27 (.int .i64 p.o) 8 = us 8 := upd_otherG (by decide)
            have U9 : updG us 27 (.int .i64 p.o) 9 = us 9 := upd_otherG (by decide)
            have U10 : updG us 27 (.int .i64 p.o) 10 = us 10 := upd_otherG (by decide)
            have U11 : updG us 27 (.int .i64 p.o) 11 = us 11 := upd_otherG (by decide)
            have U12 : updG us 27 (.int .i64 p.o) 12 = us 12 := upd_otherG (by decide)
            have U13 : updG us 27 (.int .i64 p.o) 13 = us 13 := upd_otherG (by decide)
            have U17 : updG us 27 (.int .i64 p.o) 17 = us 17 := upd_otherG (by decide)
            have U18 : updG us 27 (.int .i64 p.o) 18 = us 18 := upd_otherG (by decide)
            have U19 : updG us 27 (.int .i64 p.o) 19 = us 19 := upd_otherG (by decide)
            have U20 : updG us 27 (.int .i64 p.o) 20 = us 20 := upd_otherG (by decide)
            have U21 : updG us 27 (.int .i64 p.o) 21 = us 21 := upd_otherG (by decide)
            have U22 : updG us 27 (.int .i64 p.o) 22 = us 22 := upd_otherG (by decide)
            have U23 : updG us 27 (.int .i64 p.o) 23 = us 23 := upd_otherG (by decide)
            have U24 : updG us 27 (.int .i64 p.o) 24 = us 24 := upd_otherG (by decide)
            have U25 : updG us 27 (.int .i64 p.o) 25 = us 25 := upd_otherG (by decide)
            have U26 : updG us 27 (.int .i64 p.o) 26 = us 26 := upd_otherG (by decide)
            have U27 : updG us 27 (.int .i64 p.o) 27 = (.int .i64 p.o) := upd_sameG _ _ _
            have U28 : updG us 27 (.int .i64 p.o) 28 = us 28 := upd_otherG (by decide)
            have U29 : updG us 27 (.int .i64 p.o) 29 = us 29 := upd_otherG (by decide)
            have U30 : updG us 27 (.int .i64 p.o) 30 = us 30 := upd_otherG (by decide)
            have U31 : updG us 27 (.int .i64 p.o) 31 = us 31 := upd_otherG (by decide)
            have U33 : updG us 27 (.int .i64 p.o) 33 = us 33 := upd_otherG (by decide)
            have U34 : updG us 27 (.int .i64 p.o) 34 = us 34 := upd_otherG (by decide)
            refine wpOp_step rfl (fun K hK => ?_)
            simp only [frVt, e0, e1, e5, e33, e34, e7, e8, e9, e10, e2, e3, e6, e11, e12, e13, e4, e26]
            go_simp
            refine hK _ _ ⟨updG us 27 (.int .i64 p.o), by simp [frVt, updG, e0, e1, e5, e33, e34, e7, e8, e9, e10, e2, e3, e6, e11, e12, e13, e4, e26], { u0 := (U0.trans I.u0), u1 := (U1.trans I.u1), u5 := (U5.trans I.u5), u33 := (U33.trans I.u33), u34 := (U34.trans I.u34), u7 := (U7.trans I.u7), u8 := (U8.trans I.u8), u9 := (U9.trans I.u9), u10 := (U10.trans I.u10), u2 := (U2.trans I.u2), u3 := (U3.trans I.u3), u6 := (U6.trans I.u6), u11 := (U11.trans I.u11), u12 := (U12.trans I.u12), u13 := (U13.trans I.u13), u4 := (fun h => U4.trans (I.u4 (D15.symm.trans h))), bel := (fun _ => hbel), belo := (I.belo), allR := (fun h => absurd (D14.symm.trans h) (by rw [F14]; exact Bool.false_ne_true)), allL := (fun h => absurd (D15.symm.trans h) (by rw [F15]; exact Bool.false_ne_true)), o0 := (fun h => U17.trans (I.o0 (D0.symm.trans h))), o1 := (fun h => U18.trans (I.o1 (D1.symm.trans h))), p2 := (fun h => by have hh := I.p2 (D2.symm.trans h); exact D1.trans hh), o2 := (fun h => U19.trans (I.o2 (D2.symm.trans h))), p3 := (fun h => by have hh := I.p3 (D3.symm.trans h); exact D2.trans hh), o3 := (fun h => U20.trans (I.o3 (D3.symm.trans h))), o4 := (fun h => U21.trans (I.o4 (D4.symm.trans h))), p5 := (fun h => by have hh := I.p5 (D5.symm.trans h); exact D4.trans hh), o5 := (fun h => U22.trans (I.o5 (D5.symm.trans h))), p6 := (fun h => by have hh := I.p6 (D6.symm.trans h); exact D5.trans hh), o6 := (fun h => U23.trans (I.o6 (D6.symm.trans h))), p7 := (fun h => by have hh := I.p7 (D7.symm.trans h); exact ⟨D3.trans hh.1, D6.trans hh.2⟩), o7 := (fun h => U24.trans (I.o7 (D7.symm.trans h))), p8 := (fun h => by have hh := I.p8 (D8.symm.trans h); exact D7.trans hh), o8 := (fun h => U25.trans (I.o8 (D8.symm.trans h))), o9 := (fun h => U26.trans (I.o9 (D9.symm.trans h))), p10 := (fun _ => D9.trans h9), o10 := (fun _ => U27), p11 := (fun h => by have hh := I.p11 (D11.symm.trans h); exact D10), o11 := (fun h => U28.trans (I.o11 (D11.symm.trans h))), p12 := (fun h => by have hh := I.p12 (D12.symm.trans h); exact ⟨D8.trans hh.1, D11.trans hh.2⟩), o12 := (fun h => U29.trans (I.o12 (D12.symm.trans h))), p13 := (fun h => by have hh := I.p13 (D13.symm.trans h); exact D12.trans hh), o13 := (fun h h2 => by rw [U30]; exact I.o13 (D13.symm.trans h) (D14.symm.trans h2)), o14 := (fun h => absurd (D14.symm.trans h) (by rw [F14]; exact Bool.false_ne_true)), o15 := (fun h => absurd (D15.symm.trans h) (by rw [F15]; exact Bool.false_ne_true)) }⟩
          · skip
            have D0 : (d.setIfInBounds 11 true).getD 0 false = d.getD 0 false := getD_set_ne false (by decide)
            have D1 : (d.setIfInBounds 11 true).getD 1 false = d.getD 1 false := getD_set_ne false (by decide)
            have D2 : (d.setIfInBounds 11 true).getD 2 false = d.getD 2 false := getD_set_ne false (by decide)
            have D3 : (d.setIfInBounds 11 true).getD 3 false = d.getD 3 false := getD_set_ne false (by decide)
            have D4 : (d.setIfInBounds 11 true).getD 4 false = d.getD 4 false := getD_set_ne false (by decide)
            have D5 : (d.setIfInBounds 11 true).getD 5 false = d.getD 5 false := getD_set_ne false (by decide)
            have D6 : (d.setIfInBounds 11 true).getD 6 false = d.getD 6 false := getD_set_ne false (by decide)
            have D7 : (d.setIfInBounds 11 true).getD 7 false = d.getD 7 false := getD_set_ne false (by decide)
            have D8 : (d.setIfInBounds 11 true).getD 8 false = d.getD 8 false := getD_set_ne false (by decide)
            have D9 : (d.setIfInBounds 11 true).getD 9 false = d.getD 9 false := getD_set_ne false (by decide)
            have D10 : (d.setIfInBounds 11 true).getD 10 false = d.getD 10 false := getD_set_ne false (by decide)
            have D11 : (d.setIfInBounds 11 true).getD 11 false = true := getD_setG hun
            have D12 : (d.setIfInBounds 11 true).getD 12 false = d.getD 12 false := getD_set_ne false (by decide)
            have D13 : (d.setIfInBounds 11 true).getD 13 false = d.getD 13 false := getD_set_ne false (by decide)
            have D14 : (d.setIfInBounds 11 true).getD 14 false = d.getD 14 false := getD_set_ne false (by decide)
            have D15 : (d.setIfInBounds 11 true).getD 15 false = d.getD 15 false := getD_set_ne false (by decide)
            have F11 := getD_tfG hun
            have F15 : d.getD 15 false = false := by
              cases hh : d.getD 15 false with
              | false => rfl
              | true => have := I.allL hh 11 (by decide); rw [F11] at this; cases this
            have e4 := I.u4 F15
            have F14 : d.getD 14 false = false := by
              cases hh : d.getD 14 false with
              | false => rfl
              | true => have := I.allR hh 11 (by decide); rw [F11] at this; cases this
            have hbel := I.bel F14
            have hsz : wq.heap.size ≤ W.heap.size := hbel.size
            have hTab := hT.below hbel
            have hbx := (kb.step hbel).cells
            have c0 := hbx.c0
            have c1 := hbx.c1
            have c2 := hbx.c2
            have h10 := hall ⟨10, .data⟩ (by simp) rfl
            have e27 := I.o10 h10
            have U0 : updG us 28 (.string ⟨X2.toArray⟩) 0 = us 0 := upd_otherG (by decide)
            have U1 : updG us 28 (.string ⟨X2.toArray⟩) 1 = us 1 := upd_otherG (by decide)
            have U2 : updG us 28 (.string ⟨X2.toArray⟩) 2 = us 2 := upd_otherG (by decide)
            have U3 : updG us 28 (.string ⟨X2.toArray⟩) 3 = us 3 := upd_otherG (by decide)
            have U4 : updG us 28 (.string ⟨X2.toArray⟩) 4 = us 4 := upd_otherG (by decide)
            have U5 : updG us 28 (.string ⟨X2.toArray⟩) 5 = us 5 := upd_otherG (by decide)
            have U6 : updG us 28 (.string ⟨X2.toArray⟩) 6 = us 6 := upd_otherG (by decide)
            have U7 : updG us 28 (.string ⟨X2.toArray⟩) 7 = us 7 := upd_otherG (by decide)
            have U8 : updG us 28 (.string ⟨X2.toArray⟩) 8 = us 8 := upd_otherG (by decide)
            have U9 : updG us 28 (.string ⟨X2.toArray⟩) 9 = us 9 := upd_otherG (by decide)
            have U10 : updG us 28 (.string ⟨X2.toArray⟩) 10 = us 10 := upd_otherG (by decide)
            have U11 : updG us 28 (.string ⟨X2.toArray⟩) 11 = us 11 := upd_otherG (by decide)
            have U12 : updG us 28 (.string ⟨X2.toArray⟩) 12 = us 12 := upd_otherG (by decide)
            have U13 : updG us 28 (.string ⟨X2.toArray⟩) 13 = us 13 := upd_otherG (by decide)
            have U17 : updG us 28 (.string ⟨X2.toArray⟩) 17 = us 17 := upd_otherG (by decide)
            have U18 : updG us 28 (.string ⟨X2.toArray⟩) 18 = us 18 := upd_otherG (by decide)
            have U19 : updG us 28 (.string ⟨X2.toArray⟩) 19 = us 19 := upd_otherG (by decide)
            have U20 : updG us 28 (.string ⟨X2.toArray⟩) 20 = us 20 := upd_otherG (by decide)
            have U21 : updG us 28 (.string ⟨X2.toArray⟩) 21 = us 21 := upd_otherG (by decide)
            have U22 : updG us 28 (.string ⟨X2.toArray⟩) 22 = us 22 := upd_otherG (by decide)
            have U23 : updG us 28 (.string ⟨X2.toArray⟩) 23 = us 23 := upd_otherG (by decide)
            have U24 : updG us 28 (.string ⟨X2.toArray⟩) 24 = us 24 := upd_otherG (by decide)
            have U25 : updG us 28 (.string ⟨X2.toArray⟩) 25 = us 25 := upd_otherG (by decide)
            have U26 : updG us 28 (.string ⟨X2.toArray⟩) 26 = us 26 := upd_otherG (by decide)
            have U27 : updG us 28 (.string ⟨X2.toArray⟩) 27 = us 27 := upd_otherG (by decide)
            have U28 : updG us 28 (.string ⟨X2.toArray⟩) 28 = (.string ⟨X2.toArray⟩) := upd_sameG _ _ _
            have U29 : updG us 28 (.string ⟨X2.toArray⟩) 29 = us 29 := upd_otherG (by decide)
            have U30 : updG us 28 (.string ⟨X2.toArray⟩) 30 = us 30 := upd_otherG (by decide)
            have U31 : updG us 28 (.string ⟨X2.toArray⟩) 31 = us 31 := upd_otherG (by decide)
            have U33 : updG us 28 (.string ⟨X2.toArray⟩) 33 = us 33 := upd_otherG (by decide)
            have U34 : updG us 28 (.string ⟨X2.toArray⟩) 34 = us 34 := upd_otherG (by decide)
            refine wpOp_step rfl (fun K hK => ?_)
            simp only [frVt, e0, e1, e5, e33, e34, e7, e8, e9, e10, e2, e3, e6, e11, e12, e13, e4, e27]
            go_simp
            go_wp2_with (go_at_call 19; refine (HF2.out W hTab).mono ?_; rintro e w2 ⟨rfl, hb2⟩)
            exact ⟨updG us 28 (.string ⟨X2.toArray⟩), by simp [frVt, updG, e0, e1, e5, e33, e34, e7, e8, e9, e10, e2, e3, e6, e11, e12, e13, e4, e27], { u0 := (U0.trans I.u0), u1 := (U1.trans I.u1), u5 := (U5.trans I.u5), u33 := (U33.trans I.u33), u34 := (U34.trans I.u34), u7 := (U7.trans I.u7), u8 := (U8.trans I.u8), u9 := (U9.trans I.u9), u10 := (U10.trans I.u10), u2 := (U2.trans I.u2), u3 := (U3.trans I.u3), u6 := (U6.trans I.u6), u11 := (U11.trans I.u11), u12 := (U12.trans I.u12), u13 := (U13.trans I.u13), u4 := (fun h => U4.trans (I.u4 (D15.symm.trans h))), bel := (fun _ => hbel.trans (hb2.mono hsz)), belo := (I.belo.trans (hb2.mono (Nat.le_trans hlo hsz))), allR := (fun h => absurd (D14.symm.trans h) (by rw [F14]; exact Bool.false_ne_true)), allL := (fun h => absurd (D15.symm.trans h) (by rw [F15]; exact Bool.false_ne_true)), o0 := (fun h => U17.trans (I.o0 (D0.symm.trans h))), o1 := (fun h => U18.trans (I.o1 (D1.symm.trans h))), p2 := (fun h => by have hh := I.p2 (D2.symm.trans h); exact D1.trans hh), o2 := (fun h => U19.trans (I.o2 (D2.symm.trans h))), p3 := (fun h => by have hh := I.p3 (D3.symm.trans h); exact D2.trans hh), o3 := (fun h => U20.trans (I.o3 (D3.symm.trans h))), o4 := (fun h => U21.trans (I.o4 (D4.symm.trans h))), p5 := (fun h => by have hh := I.p5 (D5.symm.trans h); exact D4.trans hh), o5 := (fun h => U22.trans (I.o5 (D5.symm.trans h))), p6 := (fun h => by have hh := I.p6 (D6.symm.trans h); exact D5.trans hh), o6 := (fun h => U23.trans (I.o6 (D6.symm.trans h))), p7 := (fun h => by have hh := I.p7 (D7.symm.trans h); exact ⟨D3.trans hh.1, D6.trans hh.2⟩), o7 := (fun h => U24.trans (I.o7 (D7.symm.trans h))), p8 := (fun h => by have hh := I.p8 (D8.symm.trans h); exact D7.trans hh), o8 := (fun h => U25.trans (I.o8 (D8.symm.trans h))), o9 := (fun h => U26.trans (I.o9 (D9.symm.trans h))), p10 := (fun h => by have hh := I.p10 (D10.symm.trans h); exact D9.trans hh), o10 := (fun h => U27.trans (I.o10 (D10.symm.trans h))), p11 := (fun _ => D10.trans h10), o11 := (fun _ => U28), p12 := (fun h => by have hh := I.p12 (D12.symm.trans h); exact ⟨D8.trans hh.1, D11⟩), o12 := (fun h => U29.trans (I.o12 (D12.symm.trans h))), p13 := (fun h => by have hh := I.p13 (D13.symm.trans h); exact D12.trans hh), o13 := (fun h h2 => by rw [U30]; obtain ⟨B2, g1, g2, g3⟩ := I.o13 (D13.symm.trans h) (D14.symm.trans h2); exact ⟨B2, g1, (hb2.block B2 (lt_some g2)).trans g2, g3⟩), o14 := (fun h => absurd (D14.symm.trans h) (by rw [F14]; exact Bool.false_ne_true)), o15 := (fun h => absurd (D15.symm.trans h) (by rw [F15]; exact Bool.false_ne_true)) }⟩
          · skip
            have D0 : (d.setIfInBounds 12 true).getD 0 false = d.getD 0 false := getD_set_ne false (by decide)
            have D1 : (d.setIfInBounds 12 true).getD 1 false = d.getD 1 false := getD_set_ne false (by decide)
            have D2 : (d.setIfInBounds 12 true).getD 2 false = d.getD 2 false := getD_set_ne false (by decide)
            have D3 : (d.setIfInBounds 12 true).getD 3 false = d.getD 3 false := getD_set_ne false (by decide)
            have D4 : (d.setIfInBounds 12 true).getD 4 false = d.getD 4 false := getD_set_ne false (by decide)
            have D5 : (d.setIfInBounds 12 true).getD 5 false = d.getD 5 false := getD_set_ne false (by decide)
            have D6 : (d.setIfInBounds 12 true).getD 6 false = d.getD 6 false := getD_set_ne false (by decide)
            have D7 : (d.setIfInBounds 12 true).getD 7 false = d.getD 7 false := getD_set_ne false (by decide)
            have D8 : (d.setIfInBounds 12 true).getD 8 false = d.getD 8 false := getD_set_ne false (by decide)
            have D9 : (d.setIfInBounds 12 true).getD 9 false = d.getD 9 false := getD_set_ne false (by decide)
            have D10 : (d.setIfInBounds 12 true).getD 10 false = d.getD 10 false := getD_set_ne false (by decide)
            have D11 : (d.setIfInBounds 12 true).getD 11 false = d.getD 11 false := getD_set_ne false (by decide)
            have D12 : (d.setIfInBounds 12 true).getD 12 false = true := getD_setG hun
            have D13 : (d.setIfInBounds 12 true).getD 13 false = d.getD 13 false := getD_set_ne false (by decide)
            have D14 : (d.setIfInBounds 12 true).getD 14 false = d.getD 14 false := getD_set_ne false (by decide)
            have D15 : (d.setIfInBounds 12 true).getD 15 false = d.getD 15 false := getD_set_ne false (by decide)
            have F12 := getD_tfG hun
            have F15 : d.getD 15 false = false := by
              cases hh : d.getD 15 false with
              | false => rfl
              | true => have := I.allL hh 12 (by decide); rw [F12] at this; cases this
            have e4 := I.u4 F15
            have F14 : d.getD 14 false = false := by
              cases hh : d.getD 14 false with
              | false => rfl
              | true => have := I.allR hh 12 (by decide); rw [F12] at this; cases this
            have hbel := I.bel F14
            have hsz : wq.heap.size ≤ W.heap.size := hbel.size
            have hTab := hT.below hbel
            have hbx := (kb.step hbel).cells
            have c0 := hbx.c0
            have c1 := hbx.c1
            have c2 := hbx.c2
            have h8 := hall ⟨8, .data⟩ (by simp) rfl
            have e25 := I.o8 h8
            have h11 := hall ⟨11, .data⟩ (by simp) rfl
            have e28 := I.o11 h11
            have U0 : updG us 29 (.string ⟨T.toArray⟩) 0 = us 0 := upd_otherG (by decide)
            have U1 : updG us 29 (.string ⟨T.toArray⟩) 1 = us 1 := upd_otherG (by decide)
            have U2 : updG us 29 (.string ⟨T.toArray⟩) 2 = us 2 := upd_otherG (by decide)
            have U3 : updG us 29 (.string ⟨T.toArray⟩) 3 = us 3 := upd_otherG (by decide)
            have U4 : updG us 29 (.string ⟨T.toArray⟩) 4 = us 4 := upd_otherG (by decide)
            have U5 : updG us 29 (.string ⟨T.toArray⟩) 5 = us 5 := upd_otherG (by decide)
            have U6 : updG us 29 (.string ⟨T.toArray⟩) 6 = us 6 := upd_otherG (by decide)
            have U7 : updG us 29 (.string ⟨T.toArray⟩) 7 = us 7 := upd_otherG (by decide)
            have U8 : updG us 29 (.string ⟨T.toArray⟩) 8 = us 8 := upd_otherG (by decide)
            have U9 : updG us 29 (.string ⟨T.toArray⟩) 9 = us 9 := upd_otherG (by decide)
            have U10 : updG us 29 (.string ⟨T.toArray⟩) 10 = us 10 := upd_otherG (by decide)
            have U11 : updG us 29 (.string ⟨T.toArray⟩) 11 = us 11 := upd_otherG (by decide)
            have U12 : updG us 29 (.string ⟨T.toArray⟩) 12 = us 12 := upd_otherG (by decide)
            have U13 : updG us 29 (.string ⟨T.toArray⟩) 13 = us 13 := upd_otherG (by decide)
            have U17 : updG us 29 (.string ⟨T.toArray⟩) 17 = us 17 := upd_otherG (by decide)
            have U18 : updG us 29 (.string ⟨T.toArray⟩) 18 = us 18 := upd_otherG (by decide)
            have U19 : updG us 29 (.string ⟨T.toArray⟩) 19 = us 19 := upd_otherG (by decide)
            have U20 : updG us 29 (.string ⟨T.toArray⟩) 20 = us 20 := upd_otherG (by decide)
            have U21 : updG us 29 (.string ⟨T.toArray⟩) 21 = us 21 := upd_otherG (by decide)
            have U22 : updG us 29 (.string ⟨T.toArray⟩) 22 = us 22 := upd_otherG (by decide)
            have U23 : updG us 29 (.string ⟨T.toArray⟩) 23 = us 23 := upd_otherG (by decide)
            have U24 : updG us 29 (.string ⟨T.toArray⟩) 24 = us 24 := upd_otherG (by decide)
            have U25 : updG us 29 (.string ⟨T.toArray⟩) 25 = us 25 := upd_otherG (by decide)
            have U26 : updG us 29 (.string ⟨T.toArray⟩) 26 = us 26 := upd_otherG (by decide)
            have U27 : updG us 29 (.string ⟨T.toArray⟩) 27 = us 27 := upd_otherG (by decide)
            have U28 : updG us 29 (.string ⟨T.toArray⟩) 28 = us 28 := upd_otherG (by decide)
            have U29 : updG us 29 (.string ⟨T.toArray⟩) 29 = (.string ⟨T.toArray⟩) := upd_sameG _ _ _
            have U30 : updG us 29 (.string ⟨T.toArray⟩) 30 = us 30 := upd_otherG (by decide)
            have U31 : updG us 29 (.string ⟨T.toArray⟩) 31 = us 31 := upd_otherG (by decide)
            have U33 : updG us 29 (.string ⟨T.toArray⟩) 33 = us 33 := upd_otherG (by decide)
            have U34 : updG us 29 (.string ⟨T.toArray⟩) 34 = us 34 := upd_otherG (by decide)
            refine wpOp_step rfl (fun K hK => ?_)
            simp only [frVt, e0, e1, e5, e33, e34, e7, e8, e9, e10, e2, e3, e6, e11, e12, e13, e4, e25, e28]
            go_simp
            refine hK _ _ ⟨updG us 29 (.string ⟨T.toArray⟩), by simp [frVt, updG, e0, e1, e5, e33, e34, e7, e8, e9, e10, e2, e3, e6, e11, e12, e13, e4, e25, e28, s4], { u0 := (U0.trans I.u0), u1 := (U1.trans I.u1), u5 := (U5.trans I.u5), u33 := (U33.trans I.u33), u34 := (U34.trans I.u34), u7 := (U7.trans I.u7), u8 := (U8.trans I.u8), u9 := (U9.trans I.u9), u10 := (U10.trans I.u10), u2 := (U2.trans I.u2), u3 := (U3.trans I.u3), u6 := (U6.trans I.u6), u11 := (U11.trans I.u11), u12 := (U12.trans I.u12), u13 := (U13.trans I.u13), u4 := (fun h => U4.trans (I.u4 (D15.symm.trans h))), bel := (fun _ => hbel), belo := (I.belo), allR := (fun h => absurd (D14.symm.trans h) (by rw [F14]; exact Bool.false_ne_true)), allL := (fun h => absurd (D15.symm.trans h) (by rw [F15]; exact Bool.false_ne_true)), o0 := (fun h => U17.trans (I.o0 (D0.symm.trans h))), o1 := (fun h => U18.trans (I.o1 (D1.symm.trans h))), p2 := (fun h => by have hh := I.p2 (D2.symm.trans h); exact D1.trans hh), o2 := (fun h => U19.trans (I.o2 (D2.symm.trans h))), p3 := (fun h => by have hh := I.p3 (D3.symm.trans h); exact D2.trans hh), o3 := (fun h => U20.trans (I.o3 (D3.symm.trans h))), o4 := (fun h => U21.trans (I.o4 (D4.symm.trans h))), p5 := (fun h => by have hh := I.p5 (D5.symm.trans h); exact D4.trans hh), o5 := (fun h => U22.trans (I.o5 (D5.symm.trans h))), p6 := (fun h => by have hh := I.p6 (D6.symm.trans h); exact D5.trans hh), o6 := (fun h => U23.trans (I.o6 (D6.symm.trans h))), p7 := (fun h => by have hh := I.p7 (D7.symm.trans h); exact ⟨D3.trans hh.1, D6.trans hh.2⟩), o7 := (fun h => U24.trans (I.o7 (D7.symm.trans h))), p8 := (fun h => by have hh := I.p8 (D8.symm.trans h); exact D7.trans hh), o8 := (fun h => U25.trans (I.o8 (D8.symm.trans h))), o9 := (fun h => U26.trans (I.o9 (D9.symm.trans h))), p10 := (fun h => by have hh := I.p10 (D10.symm.trans h); exact D9.trans hh), o10 := (fun h => U27.trans (I.o10 (D10.symm.trans h))), p11 := (fun h => by have hh := I.p11 (D11.symm.trans h); exact D10.trans hh), o11 := (fun h => U28.trans (I.o11 (D11.symm.trans h))), p12 := (fun _ => ⟨D8.trans h8, D11.trans h11⟩), o12 := (fun _ => U29), p13 := (fun h => by have hh := I.p13 (D13.symm.trans h); exact D12), o13 := (fun h h2 => by rw [U30]; exact I.o13 (D13.symm.trans h) (D14.symm.trans h2)), o14 := (fun h => absurd (D14.symm.trans h) (by rw [F14]; exact Bool.false_ne_true)), o15 := (fun h => absurd (D15.symm.trans h) (by rw [F15]; exact Bool.false_ne_true)) }⟩
          · skip
            have D0 : (d.setIfInBounds 13 true).getD 0 false = d.getD 0 false := getD_set_ne false (by decide)
            have D1 : (d.setIfInBounds 13 true).getD 1 false = d.getD 1 false := getD_set_ne false (by decide)
            have D2 : (d.setIfInBounds 13 true).getD 2 false = d.getD 2 false := getD_set_ne false (by decide)
            have D3 : (d.setIfInBounds 13 true).getD 3 false = d.getD 3 false := getD_set_ne false (by decide)
            have D4 : (d.setIfInBounds 13 true).getD 4 false = d.getD 4 false := getD_set_ne false (by decide)
            have D5 : (d.setIfInBounds 13 true).getD 5 false = d.getD 5 false := getD_set_ne false (by decide)
            have D6 : (d.setIfInBounds 13 true).getD 6 false = d.getD 6 false := getD_set_ne false (by decide)
            have D7 : (d.setIfInBounds 13 true).getD 7 false = d.getD 7 false := getD_set_ne false (by decide)
            have D8 : (d.setIfInBounds 13 true).getD 8 false = d.getD 8 false := getD_set_ne false (by decide)
            have D9 : (d.setIfInBounds 13 true).getD 9 false = d.getD 9 false := getD_set_ne false (by decide)
            have D10 : (d.setIfInBounds 13 true).getD 10 false = d.getD 10 false := getD_set_ne false (by decide)
            have D11 : (d.setIfInBounds 13 true).getD 11 false = d.getD 11 false := getD_set_ne false (by decide)
            have D12 : (d.setIfInBounds 13 true).getD 12 false = d.getD 12 false := getD_set_ne false (by decide)
            have D13 : (d.setIfInBounds 13 true).getD 13 false = true := getD_setG hun
            have D14 : (d.setIfInBounds 13 true).getD 14 false = d.getD 14 false := getD_set_ne false (by decide)
            have D15 : (d.setIfInBounds 13 true).getD 15 false = d.getD 15 false := getD_set_ne false (by decide)
            have F13 := getD_tfG hun
            have F15 : d.getD 15 false = false := by
              cases hh : d.getD 15 false with
              | false => rfl
              | true => have := I.allL hh 13 (by decide); rw [F13] at this; cases this
            have e4 := I.u4 F15
            have F14 : d.getD 14 false = false := by
              cases hh : d.getD 14 false with
              | false => rfl
              | true => have := I.allR hh 13 (by decide); rw [F13] at this; cases this
            have hbel := I.bel F14
            have hsz : wq.heap.size ≤ W.heap.size := hbel.size
            have hTab := hT.below hbel
            have hbx := (kb.step hbel).cells
            have c0 := hbx.c0
            have c1 := hbx.c1
            have c2 := hbx.c2
            have h12 := hall ⟨12, .data⟩ (by simp) rfl
            have e29 := I.o12 h12
            have U0 : updG us 30 (.slice (some ⟨W.heap.size, 0, none⟩) 1 1) 0 = us 0 := upd_otherG (by decide)
            have U1 : updG us 30 (.slice (some ⟨W.heap.size, 0, none⟩) 1 1) 1 = us 1 := upd_otherG (by decide)
            have U2 : updG us 30 (.slice (some ⟨W.heap.size, 0, none⟩) 1 1) 2 = us 2 := upd_otherG (by decide)
            have U3 : updG us 30 (.slice (some ⟨W.heap.size, 0, none⟩) 1 1) 3 = us 3 := upd_otherG (by decide)
            have U4 : updG us 30 (.slice (some ⟨W.heap.size, 0, none⟩) 1 1) 4 = us 4 := upd_otherG (by decide)
            have U5 : updG us 30 (.slice (some ⟨W.heap.size, 0, none⟩) 1 1) 5 = us 5 := upd_otherG (by decide)
            have U6 : updG us 30 (.slice (some ⟨W.heap.size, 0, none⟩) 1 1) 6 = us 6 := upd_otherG (by decide)
            have U7 : updG us 30 (.slice (some ⟨W.heap.size, 0, none⟩) 1 1) 7 = us 7 := upd_otherG (by decide)
            have U8 : updG us 30 (.slice (some ⟨W.heap.size, 0, none⟩) 1 1) 8 = us 8 := upd_otherG (by decide)
            have U9 : updG us 30 (.slice (some ⟨W.heap.size, 0, none⟩) 1 1) 9 = us 9 := upd_otherG (by decide)
            have U10 : updG us 30 (.slice (some ⟨W.heap.size, 0, none⟩) 1 1) 10 = us 10 := upd_otherG (by decide)
            have U11 : updG us 30 (.slice (some ⟨W.heap.size, 0, none⟩) 1 1) 11 = us 11 := upd_otherG (by decide)
            have U12 : updG us 30 (.slice (some ⟨W.heap.size, 0, none⟩) 1 1) 12 = us 12 := upd_otherG (by decide)
            have U13 : updG us 30 (.slice (some ⟨W.heap.size, 0, none⟩) 1 1) 13 = us 13 := upd_otherG (by decide)
            have U17 : updG us 30 (.slice (some ⟨W.heap.size, 0, none⟩) 1 1) 17 = us 17 := upd_otherG (by decide)
            have U18 : updG us 30 (.slice (some ⟨W.heap.size, 0, none⟩) 1 1) 18 = us 18 := upd_otherG (by decide)
            have U19 : updG us 30 (.slice (some ⟨W.heap.size, 0, none⟩) 1 1) 19 = us 19 := upd_otherG (by decide)
            have U20 : updG us 30 (.slice (some ⟨W.heap.size, 0, none⟩) 1 1) 20 = us 20 := upd_otherG (by decide)
            have U21 : updG us 30 (.slice (some ⟨W.heap.size, 0, none⟩) 1 1) 21 = us 21 := upd_otherG (by decide)
            have U22 : updG us 30 (.slice (some ⟨W.heap.size, 0, none⟩) 1 1) 22 = us 22 := upd_otherG (by decide)
            have U23 : updG us 30 (.slice (some ⟨W.heap.size, 0, none⟩) 1 1) 23 = us 23 := upd_otherG (by decide)
            have U24 : updG us 30 (.slice (some ⟨W.heap.size, 0, none⟩) 1 1) 24 = us 24 := upd_otherG (by decide)
            have U25 : updG us 30 (.slice (some ⟨W.heap.size, 0, none⟩) 1 1) 25 = us 25 := upd_otherG (by decide)
            have U26 : updG us 30 (.slice (some ⟨W.heap.size, 0, none⟩) 1 1) 26 = us 26 := upd_otherG (by decide)
            have U27 : updG us 30 (.slice (some ⟨W.heap.size, 0, none⟩) 1 1) 27 = us 27 := upd_otherG (by decide)
            have U28 : updG us 30 (.slice (some ⟨W.heap.size, 0, none⟩) 1 1) 28 = us 28 := upd_otherG (by decide)
            have U29 : updG us 30 (.slice (some ⟨W.heap.size, 0, none⟩) 1 1) 29 = us 29 := upd_otherG (by decide)
            have U30 : updG us 30 (.slice (some ⟨W.heap.size, 0, none⟩) 1 1) 30 = (.slice (some ⟨W.heap.size, 0, none⟩) 1 1) := upd_sameG _ _ _
            have U31 : updG us 30 (.slice (some ⟨W.heap.size, 0, none⟩) 1 1) 31 = us 31 := upd_otherG (by decide)
            have U33 : updG us 30 (.slice (some ⟨W.heap.size, 0, none⟩) 1 1) 33 = us 33 := upd_otherG (by decide)
            have U34 : updG us 30 (.slice (some ⟨W.heap.size, 0, none⟩) 1 1) 34 = us 34 := upd_otherG (by decide)
            refine wpOp_step rfl (fun K hK => ?_)
            simp only [frVt, e0, e1, e5, e33, e34, e7, e8, e9, e10, e2, e3, e6, e11, e12, e13, e4, e29]
            go_simp
            refine hK _ _ ⟨updG us 30 (.slice (some ⟨W.heap.size, 0, none⟩) 1 1), by simp [frVt, updG, e0, e1, e5, e33, e34, e7, e8, e9, e10, e2, e3, e6, e11, e12, e13, e4, e29], { u0 := (U0.trans I.u0), u1 := (U1.trans I.u1), u5 := (U5.trans I.u5), u33 := (U33.trans I.u33), u34 := (U34.trans I.u34), u7 := (U7.trans I.u7), u8 := (U8.trans I.u8), u9 := (U9.trans I.u9), u10 := (U10.trans I.u10), u2 := (U2.trans I.u2), u3 := (U3.trans I.u3), u6 := (U6.trans I.u6), u11 := (U11.trans I.u11), u12 := (U12.trans I.u12), u13 := (U13.trans I.u13), u4 := (fun h => U4.trans (I.u4 (D15.symm.trans h))), bel := (fun _ => hbel.trans ((below_alloc W _).mono hsz)), belo := (I.belo.trans ((below_alloc W _).mono (Nat.le_trans hlo hsz))), allR := (fun h => absurd (D14.symm.trans h) (by rw [F14]; exact Bool.false_ne_true)), allL := (fun h => absurd (D15.symm.trans h) (by rw [F15]; exact Bool.false_ne_true)), o0 := (fun h => U17.trans (I.o0 (D0.symm.trans h))), o1 := (fun h => U18.trans (I.o1 (D1.symm.trans h))), p2 := (fun h => by have hh := I.p2 (D2.symm.trans h); exact D1.trans hh), o2 := (fun h => U19.trans (I.o2 (D2.symm.trans h))), p3 := (fun h => by have hh := I.p3 (D3.symm.trans h); exact D2.trans hh), o3 := (fun h => U20.trans (I.o3 (D3.symm.trans h))), o4 := (fun h => U21.trans (I.o4 (D4.symm.trans h))), p5 := (fun h => by have hh := I.p5 (D5.symm.trans h); exact D4.trans hh), o5 := (fun h => U22.trans (I.o5 (D5.symm.trans h))), p6 := (fun h => by have hh := I.p6 (D6.symm.trans h); exact D5.trans hh), o6 := (fun h => U23.trans (I.o6 (D6.symm.trans h))), p7 := (fun h => by have hh := I.p7 (D7.symm.trans h); exact ⟨D3.trans hh.1, D6.trans hh.2⟩), o7 := (fun h => U24.trans (I.o7 (D7.symm.trans h))), p8 := (fun h => by have hh := I.p8 (D8.symm.trans h); exact D7.trans hh), o8 := (fun h => U25.trans (I.o8 (D8.symm.trans h))), o9 := (fun h => U26.trans (I.o9 (D9.symm.trans h))), p10 := (fun h => by have hh := I.p10 (D10.symm.trans h); exact D9.trans hh), o10 := (fun h => U27.trans (I.o10 (D10.symm.trans h))), p11 := (fun h => by have hh := I.p11 (D11.symm.trans h); exact D10.trans hh), o11 := (fun h => U28.trans (I.o11 (D11.symm.trans h))), p12 := (fun h => by have hh := I.p12 (D12.symm.trans h); exact ⟨D8.trans hh.1, D11.trans hh.2⟩), o12 := (fun h => U29.trans (I.o12 (D12.symm.trans h))), p13 := (fun _ => D12.trans h12), o13 := (fun _ _ => ⟨W.heap.size, U30, heap_alloc_new W _, hsz⟩), o14 := (fun h => absurd (D14.symm.trans h) (by rw [F14]; exact Bool.false_ne_true)), o15 := (fun h => absurd (D15.symm.trans h) (by rw [F15]; exact Bool.false_ne_true)) }⟩
          · skip
            have D0 : (d.setIfInBounds 14 true).getD 0 false = d.getD 0 false := getD_set_ne false (by decide)
            have D1 : (d.setIfInBounds 14 true).getD 1 false = d.getD 1 false := getD_set_ne false (by decide)
            have D2 : (d.setIfInBounds 14 true).getD 2 false = d.getD 2 false := getD_set_ne false (by decide)
            have D3 : (d.setIfInBounds 14 true).getD 3 false = d.getD 3 false := getD_set_ne false (by decide)
            have D4 : (d.setIfInBounds 14 true).getD 4 false = d.getD 4 false := getD_set_ne false (by decide)
            have D5 : (d.setIfInBounds 14 true).getD 5 false = d.getD 5 false := getD_set_ne false (by decide)
            have D6 : (d.setIfInBounds 14 true).getD 6 false = d.getD 6 false := getD_set_ne false (by decide)
            have D7 : (d.setIfInBounds 14 true).getD 7 false = d.getD 7 false := getD_set_ne false (by decide)
            have D8 : (d.setIfInBounds 14 true).getD 8 false = d.getD 8 false := getD_set_ne false (by decide)
            have D9 : (d.setIfInBounds 14 true).getD 9 false = d.getD 9 false := getD_set_ne false (by decide)
            have D10 : (d.setIfInBounds 14 true).getD 10 false = d.getD 10 false := getD_set_ne false (by decide)
            have D11 : (d.setIfInBounds 14 true).getD 11 false = d.getD 11 false := getD_set_ne false (by decide)
            have D12 : (d.setIfInBounds 14 true).getD 12 false = d.getD 12 false := getD_set_ne false (by decide)
            have D13 : (d.setIfInBounds 14 true).getD 13 false = d.getD 13 false := getD_set_ne false (by decide)
            have D14 : (d.setIfInBounds 14 true).getD 14 false = true := getD_setG hun
            have D15 : (d.setIfInBounds 14 true).getD 15 false = d.getD 15 false := getD_set_ne false (by decide)
            have F14 := getD_tfG hun
            have F15 : d.getD 15 false = false := by
              cases hh : d.getD 15 false with
              | false => rfl
              | true => have := I.allL hh 14 (by decide); rw [F14] at this; cases this
            have e4 := I.u4 F15
            have hbel := I.bel F14
            have hsz : wq.heap.size ≤ W.heap.size := hbel.size
            have hTab := hT.below hbel
            have hbx := (kb.step hbel).cells
            have c0 := hbx.c0
            have c1 := hbx.c1
            have c2 := hbx.c2
            have h0 := hall ⟨0, .data⟩ (by simp) rfl
            have e17 := I.o0 h0
            have h13 := hall ⟨13, .data⟩ (by simp) rfl
            obtain ⟨B, e30, hB, hBl⟩ := I.o13 h13 F14
            obtain q13_12 := I.p13 h13
            have h12 := q13_12
            obtain ⟨q12_8, q12_11⟩ := I.p12 h12
            have h8 := q12_8
            have h11 := q12_11
            obtain q11_10 := I.p11 h11
            have h10 := q11_10
            obtain q10_9 := I.p10 h10
            have h9 := q10_9
            obtain q8_7 := I.p8 h8
            have h7 := q8_7
            obtain ⟨q7_3, q7_6⟩ := I.p7 h7
            have h3 := q7_3
            have h6 := q7_6
            obtain q6_5 := I.p6 h6
            have h5 := q6_5
            obtain q5_4 := I.p5 h5
            have h4 := q5_4
            obtain q3_2 := I.p3 h3
            have h2 := q3_2
            obtain q2_1 := I.p2 h2
            have h1 := q2_1
            have hc : ∀ k, k < 14 → d.getD k false = true := by
              intro k hk
              rcases (by omega : k = 0 ∨ k = 1 ∨ k = 2 ∨ k = 3 ∨ k = 4 ∨ k = 5 ∨ k = 6 ∨ k = 7 ∨ k = 8 ∨ k = 9 ∨ k = 10 ∨ k = 11 ∨ k = 12 ∨ k = 13) with rfl | rfl | rfl | rfl | rfl | rfl | rfl | rfl | rfl | rfl | rfl | rfl | rfl | rfl
              · exact h0
              · exact h1
              · exact h2
              · exact h3
              · exact h4
              · exact h5
              · exact h6
              · exact h7
              · exact h8
              · exact h9
              · exact h10
              · exact h11
              · exact h12
              · exact h13
            refine wpOp_append_str rfl rfl (.tmp 17) (.tmp 30) rfl w1.heap.size (.slice O ws.length q) ws (by show us 17 = _; rw [e17]) (hrow.below hbel) T B (by show us 30 = _; rw [e30]) hB hws (Nat.le_trans hlo hsz) ?_
            intro v2 W2 hR2 hg2
            have U0 : updG us 31 (v2) 0 = us 0 := upd_otherG (by decide)
            have U1 : updG us 31 (v2) 1 = us 1 := upd_otherG (by decide)
            have U2 : updG us 31 (v2) 2 = us 2 := upd_otherG (by decide)
            have U3 : updG us 31 (v2) 3 = us 3 := upd_otherG (by decide)
            have U4 : updG us 31 (v2) 4 = us 4 := upd_otherG (by decide)
            have U5 : updG us 31 (v2) 5 = us 5 := upd_otherG (by decide)
            have U6 : updG us 31 (v2) 6 = us 6 := upd_otherG (by decide)
            have U7 : updG us 31 (v2) 7 = us 7 := upd_otherG (by decide)
            have U8 : updG us 31 (v2) 8 = us 8 := upd_otherG (by decide)
            have U9 : updG us 31 (v2) 9 = us 9 := upd_otherG (by decide)
            have U10 : updG us 31 (v2) 10 = us 10 := upd_otherG (by decide)
            have U11 : updG us 31 (v2) 11 = us 11 := upd_otherG (by decide)
            have U12 : updG us 31 (v2) 12 = us 12 := upd_otherG (by decide)
            have U13 : updG us 31 (v2) 13 = us 13 := upd_otherG (by decide)
            have U17 : updG us 31 (v2) 17 = us 17 := upd_otherG (by decide)
            have U18 : updG us 31 (v2) 18 = us 18 := upd_otherG (by decide)
            have U19 : updG us 31 (v2) 19 = us 19 := upd_otherG (by decide)
            have U20 : updG us 31 (v2) 20 = us 20 := upd_otherG (by decide)
            have U21 : updG us 31 (v2) 21 = us 21 := upd_otherG (by decide)
            have U22 : updG us 31 (v2) 22 = us 22 := upd_otherG (by decide)
            have U23 : updG us 31 (v2) 23 = us 23 := upd_otherG (by decide)
            have U24 : updG us 31 (v2) 24 = us 24 := upd_otherG (by decide)
            have U25 : updG us 31 (v2) 25 = us 25 := upd_otherG (by decide)
            have U26 : updG us 31 (v2) 26 = us 26 := upd_otherG (by decide)
            have U27 : updG us 31 (v2) 27 = us 27 := upd_otherG (by decide)
            have U28 : updG us 31 (v2) 28 = us 28 := upd_otherG (by decide)
            have U29 : updG us 31 (v2) 29 = us 29 := upd_otherG (by decide)
            have U30 : updG us 31 (v2) 30 = us 30 := upd_otherG (by decide)
            have U31 : updG us 31 (v2) 31 = (v2) := upd_sameG _ _ _
            have U33 : updG us 31 (v2) 33 = us 33 := upd_otherG (by decide)
            have U34 : updG us 31 (v2) 34 = us 34 := upd_otherG (by decide)
            exact ⟨updG us 31 (v2), by simp [frVt, updG, e0, e1, e5, e33, e34, e7, e8, e9, e10, e2, e3, e6, e11, e12, e13, e4, e17, e30, Act.put], { u0 := (U0.trans I.u0), u1 := (U1.trans I.u1), u5 := (U5.trans I.u5), u33 := (U33.trans I.u33), u34 := (U34.trans I.u34), u7 := (U7.trans I.u7), u8 := (U8.trans I.u8), u9 := (U9.trans I.u9), u10 := (U10.trans I.u10), u2 := (U2.trans I.u2), u3 := (U3.trans I.u3), u6 := (U6.trans I.u6), u11 := (U11.trans I.u11), u12 := (U12.trans I.u12), u13 := (U13.trans I.u13), u4 := (fun h => U4.trans (I.u4 (D15.symm.trans h))), bel := (fun h => by rw [D14] at h; cases h), belo := (I.belo.trans hg2), allR := (fun _ k hk => (getD_set_ne false (by omega)).trans (hc k hk)), allL := (fun h => absurd (D15.symm.trans h) (by rw [F15]; exact Bool.false_ne_true)), o0 := (fun h => U17.trans (I.o0 (D0.symm.trans h))), o1 := (fun h => U18.trans (I.o1 (D1.symm.trans h))), p2 := (fun h => by have hh := I.p2 (D2.symm.trans h); exact D1.trans hh), o2 := (fun h => U19.trans (I.o2 (D2.symm.trans h))), p3 := (fun h => by have hh := I.p3 (D3.symm.trans h); exact D2.trans hh), o3 := (fun h => U20.trans (I.o3 (D3.symm.trans h))), o4 := (fun h => U21.trans (I.o4 (D4.symm.trans h))), p5 := (fun h => by have hh := I.p5 (D5.symm.trans h); exact D4.trans hh), o5 := (fun h => U22.trans (I.o5 (D5.symm.trans h))), p6 := (fun h => by have hh := I.p6 (D6.symm.trans h); exact D5.trans hh), o6 := (fun h => U23.trans (I.o6 (D6.symm.trans h))), p7 := (fun h => by have hh := I.p7 (D7.symm.trans h); exact ⟨D3.trans hh.1, D6.trans hh.2⟩), o7 := (fun h => U24.trans (I.o7 (D7.symm.trans h))), p8 := (fun h => by have hh := I.p8 (D8.symm.trans h); exact D7.trans hh), o8 := (fun h => U25.trans (I.o8 (D8.symm.trans h))), o9 := (fun h => U26.trans (I.o9 (D9.symm.trans h))), p10 := (fun h => by have hh := I.p10 (D10.symm.trans h); exact D9.trans hh), o10 := (fun h => U27.trans (I.o10 (D10.symm.trans h))), p11 := (fun h => by have hh := I.p11 (D11.symm.trans h); exact D10.trans hh), o11 := (fun h => U28.trans (I.o11 (D11.symm.trans h))), p12 := (fun h => by have hh := I.p12 (D12.symm.trans h); exact ⟨D8.trans hh.1, D11.trans hh.2⟩), o12 := (fun h => U29.trans (I.o12 (D12.symm.trans h))), p13 := (fun h => by have hh := I.p13 (D13.symm.trans h); exact D12.trans hh), o13 := (fun h h2 => by rw [D14] at h2; cases h2), o14 := (fun _ => by rw [U31]; exact hR2), o15 := (fun h => absurd (D15.symm.trans h) (by rw [F15]; exact Bool.false_ne_true)) }⟩
          · skip
            have D0 : (d.setIfInBounds 15 true).getD 0 false = d.getD 0 false := getD_set_ne false (by decide)
            have D1 : (d.setIfInBounds 15 true).getD 1 false = d.getD 1 false := getD_set_ne false (by decide)
            have D2 : (d.setIfInBounds 15 true).getD 2 false = d.getD 2 false := getD_set_ne false (by decide)
            have D3 : (d.setIfInBounds 15 true).getD 3 false = d.getD 3 false := getD_set_ne false (by decide)
            have D4 : (d.setIfInBounds 15 true).getD 4 false = d.getD 4 false := getD_set_ne false (by decide)
            have D5 : (d.setIfInBounds 15 true).getD 5 false = d.getD 5 false := getD_set_ne false (by decide)
            have D6 : (d.setIfInBounds 15 true).getD 6 false = d.getD 6 false := getD_set_ne false (by decide)
            have D7 : (d.setIfInBounds 15 true).getD 7 false = d.getD 7 false := getD_set_ne false (by decide)
            have D8 : (d.setIfInBounds 15 true).getD 8 false = d.getD 8 false := getD_set_ne false (by decide)
            have D9 : (d.setIfInBounds 15 true).getD 9 false = d.getD 9 false := getD_set_ne false (by decide)
            have D10 : (d.setIfInBounds 15 true).getD 10 false = d.getD 10 false := getD_set_ne false (by decide)
            have D11 : (d.setIfInBounds 15 true).getD 11 false = d.getD 11 false := getD_set_ne false (by decide)
            have D12 : (d.setIfInBounds 15 true).getD 12 false = d.getD 12 false := getD_set_ne false (by decide)
            have D13 : (d.setIfInBounds 15 true).getD 13 false = d.getD 13 false := getD_set_ne false (by decide)
            have D14 : (d.setIfInBounds 15 true).getD 14 false = d.getD 14 false := getD_set_ne false (by decide)
            have D15 : (d.setIfInBounds 15 true).getD 15 false = true := getD_setG hun
            have F15 := getD_tfG hun
            have h14 := hall ⟨14, .data⟩ (by simp) rfl
            have U0 : updG us 4 (us 31) 0 = us 0 := upd_otherG (by decide)
            have U1 : updG us 4 (us 31) 1 = us 1 := upd_otherG (by decide)
            have U2 : updG us 4 (us 31) 2 = us 2 := upd_otherG (by decide)
            have U3 : updG us 4 (us 31) 3 = us 3 := upd_otherG (by decide)
            have U4 : updG us 4 (us 31) 4 = (us 31) := upd_sameG _ _ _
            have U5 : updG us 4 (us 31) 5 = us 5 := upd_otherG (by decide)
            have U6 : updG us 4 (us 31) 6 = us 6 := upd_otherG (by decide)
            have U7 : updG us 4 (us 31) 7 = us 7 := upd_otherG (by decide)
            have U8 : updG us 4 (us 31) 8 = us 8 := upd_otherG (by decide)
            have U9 : updG us 4 (us 31) 9 = us 9 := upd_otherG (by decide)
            have U10 : updG us 4 (us 31) 10 = us 10 := upd_otherG (by decide)
            have U11 : updG us 4 (us 31) 11 = us 11 := upd_otherG (by decide)
            have U12 : updG us 4 (us 31) 12 = us 12 := upd_otherG (by decide)
            have U13 : updG us 4 (us 31) 13 = us 13 := upd_otherG (by decide)
            have U17 : updG us 4 (us 31) 17 = us 17 := upd_otherG (by decide)
            have U18 : updG us 4 (us 31) 18 = us 18 := upd_otherG (by decide)
            have U19 : updG us 4 (us 31) 19 = us 19 := upd_otherG (by decide)
            have U20 : updG us 4 (us 31) 20 = us 20 := upd_otherG (by decide)
            have U21 : updG us 4 (us 31) 21 = us 21 := upd_otherG (by decide)
            have U22 : updG us 4 (us 31) 22 = us 22 := upd_otherG (by decide)
            have U23 : updG us 4 (us 31) 23 = us 23 := upd_otherG (by decide)
            have U24 : updG us 4 (us 31) 24 = us 24 := upd_otherG (by decide)
            have U25 : updG us 4 (us 31) 25 = us 25 := upd_otherG (by decide)
            have U26 : updG us 4 (us 31) 26 = us 26 := upd_otherG (by decide)
            have U27 : updG us 4 (us 31) 27 = us 27 := upd_otherG (by decide)
            have U28 : updG us 4 (us 31) 28 = us 28 := upd_otherG (by decide)
            have U29 : updG us 4 (us 31) 29 = us 29 := upd_otherG (by decide)
            have U30 : updG us 4 (us 31) 30 = us 30 := upd_otherG (by decide)
            have U31 : updG us 4 (us 31) 31 = us 31 := upd_otherG (by decide)
            have U33 : updG us 4 (us 31) 33 = us 33 := upd_otherG (by decide)
            have U34 : updG us 4 (us 31) 34 = us 34 := upd_otherG (by decide)
            refine wpOp_step rfl (fun K hK => ?_)
            simp only [frVt, e0, e1, e5, e33, e34, e7, e8, e9, e10, e2, e3, e6, e11, e12, e13]
            go_simp
            refine hK _ _ ⟨updG us 4 (us 31), by simp [frVt, updG, e0, e1, e5, e33, e34, e7, e8, e9, e10, e2, e3, e6, e11, e12, e13], { u0 := (U0.trans I.u0), u1 := (U1.trans I.u1), u5 := (U5.trans I.u5), u33 := (U33.trans I.u33), u34 := (U34.trans I.u34), u7 := (U7.trans I.u7), u8 := (U8.trans I.u8), u9 := (U9.trans I.u9), u10 := (U10.trans I.u10), u2 := (U2.trans I.u2), u3 := (U3.trans I.u3), u6 := (U6.trans I.u6), u11 := (U11.trans I.u11), u12 := (U12.trans I.u12), u13 := (U13.trans I.u13), u4 := (fun h => by rw [D15] at h; cases h), bel := (fun h => I.bel (D14.symm.trans h)), belo := (I.belo), allR := (fun h k hk => (getD_set_ne false (by omega)).trans (I.allR (D14.symm.trans h) k hk)), allL := (fun _ k hk => (getD_set_ne false (by omega)).trans ((Nat.lt_or_ge k 14).elim (fun h1 => I.allR h14 k h1) (fun h1 => (show 14 = k by omega) ▸ h14))), o0 := (fun h => U17.trans (I.o0 (D0.symm.trans h))), o1 := (fun h => U18.trans (I.o1 (D1.symm.trans h))), p2 := (fun h => by have hh := I.p2 (D2.symm.trans h); exact D1.trans hh), o2 := (fun h => U19.trans (I.o2 (D2.symm.trans h))), p3 := (fun h => by have hh := I.p3 (D3.symm.trans h); exact D2.trans hh), o3 := (fun h => U20.trans (I.o3 (D3.symm.trans h))), o4 := (fun h => U21.trans (I.o4 (D4.symm.trans h))), p5 := (fun h => by have hh := I.p5 (D5.symm.trans h); exact D4.trans hh), o5 := (fun h => U22.trans (I.o5 (D5.symm.trans h))), p6 := (fun h => by have hh := I.p6 (D6.symm.trans h); exact D5.trans hh), o6 := (fun h => U23.trans (I.o6 (D6.symm.trans h))), p7 := (fun h => by have hh := I.p7 (D7.symm.trans h); exact ⟨D3.trans hh.1, D6.trans hh.2⟩), o7 := (fun h => U24.trans (I.o7 (D7.symm.trans h))), p8 := (fun h => by have hh := I.p8 (D8.symm.trans h); exact D7.trans hh), o8 := (fun h => U25.trans (I.o8 (D8.symm.trans h))), o9 := (fun h => U26.trans (I.o9 (D9.symm.trans h))), p10 := (fun h => by have hh := I.p10 (D10.symm.trans h); exact D9.trans hh), o10 := (fun h => U27.trans (I.o10 (D10.symm.trans h))), p11 := (fun h => by have hh := I.p11 (D11.symm.trans h); exact D10.trans hh), o11 := (fun h => U28.trans (I.o11 (D11.symm.trans h))), p12 := (fun h => by have hh := I.p12 (D12.symm.trans h); exact ⟨D8.trans hh.1, D11.trans hh.2⟩), o12 := (fun h => U29.trans (I.o12 (D12.symm.trans h))), p13 := (fun h => by have hh := I.p13 (D13.symm.trans h); exact D12.trans hh), o13 := (fun h h2 => by first | (rw [D14] at h2; cases h2) | (rw [D14, h14] at h2; cases h2)), o14 := (fun h => by rw [U31]; exact I.o14 (D14.symm.trans h)), o15 := (fun _ => by rw [U4, U31]) }⟩
        · intro d a W hd hall hI
          obtain ⟨us, rfl, I⟩ := hI
          have D : ∀ k, k < 16 → d.getD k false = true := fun k hk => by
            have := hall k hk
            have hk2 : k < d.size := by rw [hd]; exact hk
            simp [hk2] at this ⊢; exact this
          obtain ⟨O, q, e31, hO⟩ := I.o14 (D 14 (by decide))
          have e4 := (I.o15 (D 15 (by decide))).trans e31
          have e0 := I.u0; have e1 := I.u1; have e5 := I.u5; have e7 := I.u7; have e33 := I.u33; have e34 := I.u34; have e8 := I.u8; have e9 := I.u9; have e10 := I.u10; have e2 := I.u2; have e3 := I.u3; have e11 := I.u11; have e12 := I.u12; have e13 := I.u13
          have hbelo := I.belo
          clear I hall D e31 hd
          simp only [frVt, e0, e1, e5, e33, e34, e7, e8, e9, e10, e2, e3, e4, e11, e12, e13]
          go_wp2_with fail
          go_roundw
          case rel => exact ⟨k + 1, O, q, ws ++ [T], by omega, by go_num, rfl, by simp; omega, hO, HW, HBW.out.trans hbelo⟩
          case measure => simp [intOf]; omega
      · have hwe : ws = ps.map stxt := by have := hw.out; rwa [take_all hk hlt] at this
        have HJ := Lib.hid (joinV O q ps ws w1.heap.size wr hown hwe (by omega) hn10 HLE.out)
        clear hw hwe hown HR HOK
        go_wp2_with fail
        refine HJ.out.mono ?_
        rintro e w9 ⟨rfl, b9⟩
        go_wp2_with fail
        go_ret2
        exact ⟨by rw [E.out] <;> rfl, belowGo (belowGo b1 hb) b9⟩
  · have E := Lib.hid (voyT_no hv)
    have HV := Lib.hid (voyI_q (c := c) h hv)
    generalize voyT ps = r at *
    clear h hv
    go_enter Tryz.func7, Tryz.ntmps7
    go_wp2_with fail
    refine HV.out.mono ?_
    rintro e w1 ⟨rfl, b1⟩
    go_wp2_with fail
    go_ret2
    exact ⟨by rw [E.out] <;> rfl, b1⟩
end Go.Proofs.YtklhcofonkmiiaaGreatDoor
