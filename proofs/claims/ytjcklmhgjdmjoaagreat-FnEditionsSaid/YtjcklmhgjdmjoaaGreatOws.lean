import Derived.Test.YtjcklmhgjdmjoaaGreatOwr
namespace Go.Proofs.YtjcklmhgjdmjoaaGreat
open Go.ChangeShapes Go.WideShapes Go.ChangeAt Go.RowKit
set_option linter.unusedVariables false
theorem Sr.takeO {w : World} {A : Option Addr} {ws : List (List UInt8)} (h : Sr w A ws) (k : Nat) : Sr w A (ws.take k) := fun hp => by
 obtain ⟨b, o, e, hb, hcell⟩ := h (by rw [List.length_map] at hp ⊢; rw [List.length_take] at hp; omega)
 refine ⟨b, o, e, hb, fun j v hj => hcell j v ?_⟩
 rw [List.map_take, List.getElem?_take] at hj
 split at hj
 ·
  exact hj
 ·
  cases hj
theorem Sr.dropO {w : World} {g : Nat} {ws : List (List UInt8)} (h : Sr w (some ⟨g, 0, none⟩) ws) (k : Nat) : Sr w (some ⟨g, k, none⟩) (ws.drop k) := fun hp => by
 obtain ⟨b, o, e, hb, hcell⟩ := h (by rw [List.length_map] at hp ⊢; rw [List.length_drop] at hp; omega)
 simp only [Option.some.injEq, Addr.mk.injEq, and_true] at e
 obtain ⟨rfl, rfl⟩ := e
 refine ⟨g, k, rfl, hb, fun j v hj => ?_⟩
 rw [List.map_drop, List.getElem?_drop] at hj
 have := hcell (k + j) v hj
 rwa [Nat.zero_add] at this
theorem Sr.noneO {w : World} {A : Option Addr} : Sr w A [] := fun hp => absurd hp (by simp)
theorem insU_in {ws : List (List UInt8)} {s : List UInt8} {k : Nat} (hk : plcU ws s = k) (h : ws[k]? = some s) : insU ws s = ws := by unfold insU; rw [hk, if_pos h]
theorem insU_at {ws : List (List UInt8)} {s : List UInt8} {k : Nat} (hk : plcU ws s = k) (h : ws[k]? ≠ some s) : insU ws s = ws.take k ++ [s] ++ ws.drop k := by unfold insU; rw [hk, if_neg h]
def InsO (w : World) (base : Nat) (L : List (List UInt8)) (e : Ending) (w' : World) : Prop := ∃ O q, e = .returned (.slice O L.length q) /\ Ost w' base O L.length q L /\ Below base w w'
set_option maxRecDepth 100000 in
set_option maxHeartbeats 16000000 in
theorem insert_s (base g c : Nat) (ps : List (List UInt8)) (x : List UInt8) (w : World) (h : Ost w base (some ⟨g, 0, none⟩) ps.length c ps) (hn : ps.length <= 900) (hc : ps.length <= c) (hb0 : base <= w.heap.size) :
  Calls Tryz.prog 41 #[.slice (some ⟨g, 0, none⟩) ps.length c, .string ⟨x.toArray⟩] w (InsO w base (insU ps x)) := by
 have hR0 : Sr w (some ⟨g, 0, none⟩) ps := h.sr
 have HO := Lib.hid h
 clear h
 go_enter Tryz.func41, Tryz.ntmps41
 go_wp2_with fail
 go_loop [5] (fun i => ∃ k : Nat, k <= ps.length /\ i = .int .i64 k /\ Hid (∀ (j : Nat) (q : List UInt8), j < k -> ps[j]? = some q -> Op.bytesLess q x = true)) (fun i => ps.length - (intOf i).toNat)
 case atStart => exact ⟨0, Nat.zero_le _, rfl, Lib.hid (fun j q hj => by omega)⟩
 case round =>
  obtain ⟨k, hk, rfl, hlo⟩ := hrel
  by_cases hlt : k < ps.length
  ·
   obtain ⟨b, off, s, e, hl, hcell, hs⟩ := hR0.at hlt
   simp only [Option.some.injEq, Addr.mk.injEq, and_true] at e
   obtain ⟨rfl, rfl⟩ := e
   rw [Nat.zero_add] at hcell
   rcases Bool.eq_false_or_eq_true (Op.bytesLess s x) with hb | hb
   ·
    have HN : Hid (∀ (j : Nat) (q : List UInt8), j < k + 1 -> ps[j]? = some q -> Op.bytesLess q x = true) := Lib.hid fun j q hj hq => by
     rcases Nat.lt_or_ge j k with h1 | h1
     ·
      exact hlo.out j q h1 hq
     ·
      obtain rfl : j = k := by omega
      rw [hs.out] at hq; rw [<- Option.some.inj hq]; exact hb
    clear hlo hs
    go_wp2_with fail
    go_round
    case rel => exact ⟨k + 1, by omega, by go_num, HN⟩
    case measure => simp [intOf]; omega
   ·
    have hp : plcU ps x = k := plcU_eq hk hlo.out fun q hq => by rw [hs.out] at hq; rw [<- Option.some.inj hq]; exact hb
    have hne : ∀ (h : (s == x) = false), ps[k]? ≠ some x := fun h e => by rw [hs.out] at e; rw [Option.some.inj e] at h; simp at h
    rcases Bool.eq_false_or_eq_true (s == x) with he | he
    ·
     have E : Hid (insU ps x = ps) := Lib.hid (insU_in hp (by rw [hs.out]; simpa using he))
     clear hlo hs hp hne
     go_wp2_with fail
     go_ret
     unfold InsO
     rw [E.out]
     exact ⟨_, _, rfl, HO.out, Below.refl _ _⟩
    ·
     have hjoin : ps.take k ++ [x] ++ ps.drop k = insU ps x := (insU_at hp (hne he)).symm
     have e1 : k ≠ c := by omega
     have e1s : ¬ c = k := by omega
     have e2 : k < c := by omega
     have q1 := hR0.takeO k
     have q3 := hR0.dropO k
     have HQ : Hid (∀ O q (W : World), Ost W w.heap.size O (insU ps x).length q (insU ps x) -> Below w.heap.size w W -> InsO w base (insU ps x) (.returned (.slice O (insU ps x).length q)) W) := Lib.hid fun O q W h1 h2 => ⟨O, q, rfl, own_monoI h1 hb0, h2.mono hb0⟩
     clear hlo hs hp hne
     obtain ⟨wq, hwq⟩ : ∃ wq, wq = w := ⟨_, rfl⟩
     go_wp2_with fail
     subst hwq
     have hl1 : ((ps.take k)).length = k := by rw [List.length_take]; omega
     have hl3 : ((ps.drop k)).length = (ps.length - k) := by rw [List.length_drop]
     refine region_inv (by kernel_rfl) (by kernel_rfl) (fun d a W => ∃ us, a = frO us /\ InvO wq.heap.size (ps.length) (c) (k) (some ⟨g, 0, none⟩) (.slice (some ⟨g, 0, none⟩) k c) (.slice (some ⟨g, k, none⟩) (ps.length - k) (c - k)) ((ps.take k)) ((ps.drop k)) x wq d us W) ?_ ?_ ?_
     ·
      refine ⟨_, frO_of, ?_⟩
      have Z : ∀ k, (Array.replicate 13 false).getD k false = false := fun k => by
       rcases Nat.lt_or_ge k 13 with h | h
       ·
        simp [h]
       ·
        simp [Array.getElem?_eq_none, h]
      have Zn : ∀ {k : Nat} {p : Prop}, (Array.replicate 13 false).getD k false = true -> p := fun {k p} h => by rw [Z k] at h; cases h
      exact { u0 := rfl, u3 := rfl, u6 := rfl, bel := (Below.refl _ _).drew, o1 := Zn, o2 := Zn, o3 := Zn, o5 := Zn, o8 := Zn, o9 := Zn, o10 := Zn, o6 := Zn, r0 := Zn, r4 := Zn, r7 := Zn, r11 := Zn, s0 := Zn, s4 := Zn, o12 := Zn, i7 := Zn, i11 := Zn }
     ·
      intro i d a W hi hI
      obtain ⟨hun, oi, hoi, hall⟩ := mem_ready.1 hi
      have hlt : i < 13 := (Array.getElem?_eq_some_iff.1 hoi).1
      obtain ⟨us, rfl, I⟩ := hI
      have hsz : wq.heap.size <= W.heap.size := I.bel.size
      have e0 := I.u0
      have e3 := I.u3
      have e6 := I.u6
      rcases (by omega : i = 0 ∨ i = 1 ∨ i = 2 ∨ i = 3 ∨ i = 4 ∨ i = 5 ∨ i = 6 ∨ i = 7 ∨ i = 8 ∨ i = 9 ∨ i = 10 ∨ i = 11 ∨ i = 12) with rfl | rfl | rfl | rfl | rfl | rfl | rfl | rfl | rfl | rfl | rfl | rfl | rfl
      all_goals
       obtain rfl := Option.some.inj hoi
       clear hoi hlt hi
      ·
       skip
       have D0 : (d.setIfInBounds 0 true).getD 0 false = true := getD_set_sameO hun
       have D1 : (d.setIfInBounds 0 true).getD 1 false = d.getD 1 false := getD_set_ne false (by decide)
       have D2 : (d.setIfInBounds 0 true).getD 2 false = d.getD 2 false := getD_set_ne false (by decide)
       have D3 : (d.setIfInBounds 0 true).getD 3 false = d.getD 3 false := getD_set_ne false (by decide)
       have D4 : (d.setIfInBounds 0 true).getD 4 false = d.getD 4 false := getD_set_ne false (by decide)
       have D5 : (d.setIfInBounds 0 true).getD 5 false = d.getD 5 false := getD_set_ne false (by decide)
       have D6 : (d.setIfInBounds 0 true).getD 6 false = d.getD 6 false := getD_set_ne false (by decide)
       have D7 : (d.setIfInBounds 0 true).getD 7 false = d.getD 7 false := getD_set_ne false (by decide)
       have D8 : (d.setIfInBounds 0 true).getD 8 false = d.getD 8 false := getD_set_ne false (by decide)
       have D9 : (d.setIfInBounds 0 true).getD 9 false = d.getD 9 false := getD_set_ne false (by decide)
       have D10 : (d.setIfInBounds 0 true).getD 10 false = d.getD 10 false := getD_set_ne false (by decide)
       have D11 : (d.setIfInBounds 0 true).getD 11 false = d.getD 11 false := getD_set_ne false (by decide)
       have D12 : (d.setIfInBounds 0 true).getD 12 false = d.getD 12 false := getD_set_ne false (by decide)
       have U0 : updO us 33 (.slice (some ⟨W.heap.size, 0, none⟩) 0 0) 0 = us 0 := upd_otherO (by decide)
       have U1 : updO us 33 (.slice (some ⟨W.heap.size, 0, none⟩) 0 0) 1 = us 1 := upd_otherO (by decide)
       have U5 : updO us 33 (.slice (some ⟨W.heap.size, 0, none⟩) 0 0) 5 = us 5 := upd_otherO (by decide)
       have U4 : updO us 33 (.slice (some ⟨W.heap.size, 0, none⟩) 0 0) 4 = us 4 := upd_otherO (by decide)
       have U33 : updO us 33 (.slice (some ⟨W.heap.size, 0, none⟩) 0 0) 33 = (.slice (some ⟨W.heap.size, 0, none⟩) 0 0) := upd_sameO _ _ _
       have U34 : updO us 33 (.slice (some ⟨W.heap.size, 0, none⟩) 0 0) 34 = us 34 := upd_otherO (by decide)
       have U35 : updO us 33 (.slice (some ⟨W.heap.size, 0, none⟩) 0 0) 35 = us 35 := upd_otherO (by decide)
       have U36 : updO us 33 (.slice (some ⟨W.heap.size, 0, none⟩) 0 0) 36 = us 36 := upd_otherO (by decide)
       have U37 : updO us 33 (.slice (some ⟨W.heap.size, 0, none⟩) 0 0) 37 = us 37 := upd_otherO (by decide)
       have U38 : updO us 33 (.slice (some ⟨W.heap.size, 0, none⟩) 0 0) 38 = us 38 := upd_otherO (by decide)
       have U39 : updO us 33 (.slice (some ⟨W.heap.size, 0, none⟩) 0 0) 39 = us 39 := upd_otherO (by decide)
       have U40 : updO us 33 (.slice (some ⟨W.heap.size, 0, none⟩) 0 0) 40 = us 40 := upd_otherO (by decide)
       have U41 : updO us 33 (.slice (some ⟨W.heap.size, 0, none⟩) 0 0) 41 = us 41 := upd_otherO (by decide)
       have U42 : updO us 33 (.slice (some ⟨W.heap.size, 0, none⟩) 0 0) 42 = us 42 := upd_otherO (by decide)
       have U43 : updO us 33 (.slice (some ⟨W.heap.size, 0, none⟩) 0 0) 43 = us 43 := upd_otherO (by decide)
       have U44 : updO us 33 (.slice (some ⟨W.heap.size, 0, none⟩) 0 0) 44 = us 44 := upd_otherO (by decide)
       refine wpOp_step rfl (fun K hK => ?_)
       simp only [frO, e0, e3, e6]
       go_simp
       refine hK _ _ ⟨updO us 33 (.slice (some ⟨W.heap.size, 0, none⟩) 0 0), by simp [frO, updO, e0, e3, e6], { u0 := (U0.trans I.u0), u3 := (U1.trans I.u3), u6 := (U5.trans I.u6), bel := (I.bel.alloc hsz _), o1 := (cO U34 I.o1 D1), o2 := (cO U35 I.o2 D2), o3 := (cO U36 I.o3 D3), o5 := (cO U38 I.o5 D5), o8 := (cO U41 I.o8 D8), o9 := (cO U42 I.o9 D9), o10 := (cO U43 I.o10 D10), o6 := (fun h0 h1 => by rw [U39]; exact (I.o6 (D6.symm.trans h0) (D7.symm.trans h1)).below (below_alloc _ _)), r0 := (fun h0 h1 => by rw [U33]; exact ⟨_, _, rfl, made0i _ _ _ _ hsz⟩), r4 := (fun h0 h1 => by rw [U37]; exact (I.r4 (D4.symm.trans h0) (D7.symm.trans h1)).below (below_alloc _ _)), r7 := (fun h0 h1 => by rw [U40]; exact (I.r7 (D7.symm.trans h0) (D11.symm.trans h1)).below (below_alloc _ _)), r11 := (fun h0 => by rw [U44]; exact (I.r11 (D11.symm.trans h0)).below (below_alloc _ _)), s0 := (fun h0 h1 h2 h3 => by rw [U33, U39]; exact sep_gtO fun k hk => (I.o6 (D6.symm.trans h2) (D7.symm.trans h3)).lt hk), s4 := (fun h0 h1 h2 => by rw [U37, U39]; exact I.s4 (D4.symm.trans h0) (D7.symm.trans h1) (D6.symm.trans h2)), o12 := (fun h => by rw [U4, U44, D11]; exact I.o12 (D12.symm.trans h)), i7 := (fun h => D4.trans (I.i7 (D7.symm.trans h))), i11 := (fun h => D7.trans (I.i11 (D11.symm.trans h))) }⟩
      ·
       skip
       have D0 : (d.setIfInBounds 1 true).getD 0 false = d.getD 0 false := getD_set_ne false (by decide)
       have D1 : (d.setIfInBounds 1 true).getD 1 false = true := getD_set_sameO hun
       have D2 : (d.setIfInBounds 1 true).getD 2 false = d.getD 2 false := getD_set_ne false (by decide)
       have D3 : (d.setIfInBounds 1 true).getD 3 false = d.getD 3 false := getD_set_ne false (by decide)
       have D4 : (d.setIfInBounds 1 true).getD 4 false = d.getD 4 false := getD_set_ne false (by decide)
       have D5 : (d.setIfInBounds 1 true).getD 5 false = d.getD 5 false := getD_set_ne false (by decide)
       have D6 : (d.setIfInBounds 1 true).getD 6 false = d.getD 6 false := getD_set_ne false (by decide)
       have D7 : (d.setIfInBounds 1 true).getD 7 false = d.getD 7 false := getD_set_ne false (by decide)
       have D8 : (d.setIfInBounds 1 true).getD 8 false = d.getD 8 false := getD_set_ne false (by decide)
       have D9 : (d.setIfInBounds 1 true).getD 9 false = d.getD 9 false := getD_set_ne false (by decide)
       have D10 : (d.setIfInBounds 1 true).getD 10 false = d.getD 10 false := getD_set_ne false (by decide)
       have D11 : (d.setIfInBounds 1 true).getD 11 false = d.getD 11 false := getD_set_ne false (by decide)
       have D12 : (d.setIfInBounds 1 true).getD 12 false = d.getD 12 false := getD_set_ne false (by decide)
       have U0 : updO us 34 (.slice (some ⟨g, 0, none⟩) ps.length c) 0 = us 0 := upd_otherO (by decide)
       have U1 : updO us 34 (.slice (some ⟨g, 0, none⟩) ps.length c) 1 = us 1 := upd_otherO (by decide)
       have U5 : updO us 34 (.slice (some ⟨g, 0, none⟩) ps.length c) 5 = us 5 := upd_otherO (by decide)
       have U4 : updO us 34 (.slice (some ⟨g, 0, none⟩) ps.length c) 4 = us 4 := upd_otherO (by decide)
       have U33 : updO us 34 (.slice (some ⟨g, 0, none⟩) ps.length c) 33 = us 33 := upd_otherO (by decide)
       have U34 : updO us 34 (.slice (some ⟨g, 0, none⟩) ps.length c) 34 = (.slice (some ⟨g, 0, none⟩) ps.length c) := upd_sameO _ _ _
       have U35 : updO us 34 (.slice (some ⟨g, 0, none⟩) ps.length c) 35 = us 35 := upd_otherO (by decide)
       have U36 : updO us 34 (.slice (some ⟨g, 0, none⟩) ps.length c) 36 = us 36 := upd_otherO (by decide)
       have U37 : updO us 34 (.slice (some ⟨g, 0, none⟩) ps.length c) 37 = us 37 := upd_otherO (by decide)
       have U38 : updO us 34 (.slice (some ⟨g, 0, none⟩) ps.length c) 38 = us 38 := upd_otherO (by decide)
       have U39 : updO us 34 (.slice (some ⟨g, 0, none⟩) ps.length c) 39 = us 39 := upd_otherO (by decide)
       have U40 : updO us 34 (.slice (some ⟨g, 0, none⟩) ps.length c) 40 = us 40 := upd_otherO (by decide)
       have U41 : updO us 34 (.slice (some ⟨g, 0, none⟩) ps.length c) 41 = us 41 := upd_otherO (by decide)
       have U42 : updO us 34 (.slice (some ⟨g, 0, none⟩) ps.length c) 42 = us 42 := upd_otherO (by decide)
       have U43 : updO us 34 (.slice (some ⟨g, 0, none⟩) ps.length c) 43 = us 43 := upd_otherO (by decide)
       have U44 : updO us 34 (.slice (some ⟨g, 0, none⟩) ps.length c) 44 = us 44 := upd_otherO (by decide)
       refine wpOp_step rfl (fun K hK => ?_)
       simp only [frO, e0, e3, e6]
       go_simp
       refine hK _ _ ⟨updO us 34 (.slice (some ⟨g, 0, none⟩) ps.length c), by simp [frO, updO, e0, e3, e6], { u0 := (U0.trans I.u0), u3 := (U1.trans I.u3), u6 := (U5.trans I.u6), bel := (I.bel), o1 := (fun _ => U34), o2 := (cO U35 I.o2 D2), o3 := (cO U36 I.o3 D3), o5 := (cO U38 I.o5 D5), o8 := (cO U41 I.o8 D8), o9 := (cO U42 I.o9 D9), o10 := (cO U43 I.o10 D10), o6 := (fun h0 h1 => by rw [U39]; exact I.o6 (D6.symm.trans h0) (D7.symm.trans h1)), r0 := (fun h0 h1 => by rw [U33]; exact I.r0 (D0.symm.trans h0) (D4.symm.trans h1)), r4 := (fun h0 h1 => by rw [U37]; exact I.r4 (D4.symm.trans h0) (D7.symm.trans h1)), r7 := (fun h0 h1 => by rw [U40]; exact I.r7 (D7.symm.trans h0) (D11.symm.trans h1)), r11 := (fun h0 => by rw [U44]; exact I.r11 (D11.symm.trans h0)), s0 := (fun h0 h1 h2 h3 => by rw [U33, U39]; exact I.s0 (D0.symm.trans h0) (D4.symm.trans h1) (D6.symm.trans h2) (D7.symm.trans h3)), s4 := (fun h0 h1 h2 => by rw [U37, U39]; exact I.s4 (D4.symm.trans h0) (D7.symm.trans h1) (D6.symm.trans h2)), o12 := (fun h => by rw [U4, U44, D11]; exact I.o12 (D12.symm.trans h)), i7 := (fun h => D4.trans (I.i7 (D7.symm.trans h))), i11 := (fun h => D7.trans (I.i11 (D11.symm.trans h))) }⟩
      ·
       skip
       have D0 : (d.setIfInBounds 2 true).getD 0 false = d.getD 0 false := getD_set_ne false (by decide)
       have D1 : (d.setIfInBounds 2 true).getD 1 false = d.getD 1 false := getD_set_ne false (by decide)
       have D2 : (d.setIfInBounds 2 true).getD 2 false = true := getD_set_sameO hun
       have D3 : (d.setIfInBounds 2 true).getD 3 false = d.getD 3 false := getD_set_ne false (by decide)
       have D4 : (d.setIfInBounds 2 true).getD 4 false = d.getD 4 false := getD_set_ne false (by decide)
       have D5 : (d.setIfInBounds 2 true).getD 5 false = d.getD 5 false := getD_set_ne false (by decide)
       have D6 : (d.setIfInBounds 2 true).getD 6 false = d.getD 6 false := getD_set_ne false (by decide)
       have D7 : (d.setIfInBounds 2 true).getD 7 false = d.getD 7 false := getD_set_ne false (by decide)
       have D8 : (d.setIfInBounds 2 true).getD 8 false = d.getD 8 false := getD_set_ne false (by decide)
       have D9 : (d.setIfInBounds 2 true).getD 9 false = d.getD 9 false := getD_set_ne false (by decide)
       have D10 : (d.setIfInBounds 2 true).getD 10 false = d.getD 10 false := getD_set_ne false (by decide)
       have D11 : (d.setIfInBounds 2 true).getD 11 false = d.getD 11 false := getD_set_ne false (by decide)
       have D12 : (d.setIfInBounds 2 true).getD 12 false = d.getD 12 false := getD_set_ne false (by decide)
       have U0 : updO us 35 (.int .i64 ((k : Nat) : Int)) 0 = us 0 := upd_otherO (by decide)
       have U1 : updO us 35 (.int .i64 ((k : Nat) : Int)) 1 = us 1 := upd_otherO (by decide)
       have U5 : updO us 35 (.int .i64 ((k : Nat) : Int)) 5 = us 5 := upd_otherO (by decide)
       have U4 : updO us 35 (.int .i64 ((k : Nat) : Int)) 4 = us 4 := upd_otherO (by decide)
       have U33 : updO us 35 (.int .i64 ((k : Nat) : Int)) 33 = us 33 := upd_otherO (by decide)
       have U34 : updO us 35 (.int .i64 ((k : Nat) : Int)) 34 = us 34 := upd_otherO (by decide)
       have U35 : updO us 35 (.int .i64 ((k : Nat) : Int)) 35 = (.int .i64 ((k : Nat) : Int)) := upd_sameO _ _ _
       have U36 : updO us 35 (.int .i64 ((k : Nat) : Int)) 36 = us 36 := upd_otherO (by decide)
       have U37 : updO us 35 (.int .i64 ((k : Nat) : Int)) 37 = us 37 := upd_otherO (by decide)
       have U38 : updO us 35 (.int .i64 ((k : Nat) : Int)) 38 = us 38 := upd_otherO (by decide)
       have U39 : updO us 35 (.int .i64 ((k : Nat) : Int)) 39 = us 39 := upd_otherO (by decide)
       have U40 : updO us 35 (.int .i64 ((k : Nat) : Int)) 40 = us 40 := upd_otherO (by decide)
       have U41 : updO us 35 (.int .i64 ((k : Nat) : Int)) 41 = us 41 := upd_otherO (by decide)
       have U42 : updO us 35 (.int .i64 ((k : Nat) : Int)) 42 = us 42 := upd_otherO (by decide)
       have U43 : updO us 35 (.int .i64 ((k : Nat) : Int)) 43 = us 43 := upd_otherO (by decide)
       have U44 : updO us 35 (.int .i64 ((k : Nat) : Int)) 44 = us 44 := upd_otherO (by decide)
       refine wpOp_step rfl (fun K hK => ?_)
       simp only [frO, e0, e3, e6]
       go_simp
       refine hK _ _ ⟨updO us 35 (.int .i64 ((k : Nat) : Int)), by simp [frO, updO, e0, e3, e6], { u0 := (U0.trans I.u0), u3 := (U1.trans I.u3), u6 := (U5.trans I.u6), bel := (I.bel), o1 := (cO U34 I.o1 D1), o2 := (fun _ => U35), o3 := (cO U36 I.o3 D3), o5 := (cO U38 I.o5 D5), o8 := (cO U41 I.o8 D8), o9 := (cO U42 I.o9 D9), o10 := (cO U43 I.o10 D10), o6 := (fun h0 h1 => by rw [U39]; exact I.o6 (D6.symm.trans h0) (D7.symm.trans h1)), r0 := (fun h0 h1 => by rw [U33]; exact I.r0 (D0.symm.trans h0) (D4.symm.trans h1)), r4 := (fun h0 h1 => by rw [U37]; exact I.r4 (D4.symm.trans h0) (D7.symm.trans h1)), r7 := (fun h0 h1 => by rw [U40]; exact I.r7 (D7.symm.trans h0) (D11.symm.trans h1)), r11 := (fun h0 => by rw [U44]; exact I.r11 (D11.symm.trans h0)), s0 := (fun h0 h1 h2 h3 => by rw [U33, U39]; exact I.s0 (D0.symm.trans h0) (D4.symm.trans h1) (D6.symm.trans h2) (D7.symm.trans h3)), s4 := (fun h0 h1 h2 => by rw [U37, U39]; exact I.s4 (D4.symm.trans h0) (D7.symm.trans h1) (D6.symm.trans h2)), o12 := (fun h => by rw [U4, U44, D11]; exact I.o12 (D12.symm.trans h)), i7 := (fun h => D4.trans (I.i7 (D7.symm.trans h))), i11 := (fun h => D7.trans (I.i11 (D11.symm.trans h))) }⟩
      ·
       skip
       have D0 : (d.setIfInBounds 3 true).getD 0 false = d.getD 0 false := getD_set_ne false (by decide)
       have D1 : (d.setIfInBounds 3 true).getD 1 false = d.getD 1 false := getD_set_ne false (by decide)
       have D2 : (d.setIfInBounds 3 true).getD 2 false = d.getD 2 false := getD_set_ne false (by decide)
       have D3 : (d.setIfInBounds 3 true).getD 3 false = true := getD_set_sameO hun
       have D4 : (d.setIfInBounds 3 true).getD 4 false = d.getD 4 false := getD_set_ne false (by decide)
       have D5 : (d.setIfInBounds 3 true).getD 5 false = d.getD 5 false := getD_set_ne false (by decide)
       have D6 : (d.setIfInBounds 3 true).getD 6 false = d.getD 6 false := getD_set_ne false (by decide)
       have D7 : (d.setIfInBounds 3 true).getD 7 false = d.getD 7 false := getD_set_ne false (by decide)
       have D8 : (d.setIfInBounds 3 true).getD 8 false = d.getD 8 false := getD_set_ne false (by decide)
       have D9 : (d.setIfInBounds 3 true).getD 9 false = d.getD 9 false := getD_set_ne false (by decide)
       have D10 : (d.setIfInBounds 3 true).getD 10 false = d.getD 10 false := getD_set_ne false (by decide)
       have D11 : (d.setIfInBounds 3 true).getD 11 false = d.getD 11 false := getD_set_ne false (by decide)
       have D12 : (d.setIfInBounds 3 true).getD 12 false = d.getD 12 false := getD_set_ne false (by decide)
       have e33 := I.o1 (hall ⟨1, .data⟩ (by simp) rfl)
       have e34 := I.o2 (hall ⟨2, .data⟩ (by simp) rfl)
       have U0 : updO us 36 (.slice (some ⟨g, 0, none⟩) k c) 0 = us 0 := upd_otherO (by decide)
       have U1 : updO us 36 (.slice (some ⟨g, 0, none⟩) k c) 1 = us 1 := upd_otherO (by decide)
       have U5 : updO us 36 (.slice (some ⟨g, 0, none⟩) k c) 5 = us 5 := upd_otherO (by decide)
       have U4 : updO us 36 (.slice (some ⟨g, 0, none⟩) k c) 4 = us 4 := upd_otherO (by decide)
       have U33 : updO us 36 (.slice (some ⟨g, 0, none⟩) k c) 33 = us 33 := upd_otherO (by decide)
       have U34 : updO us 36 (.slice (some ⟨g, 0, none⟩) k c) 34 = us 34 := upd_otherO (by decide)
       have U35 : updO us 36 (.slice (some ⟨g, 0, none⟩) k c) 35 = us 35 := upd_otherO (by decide)
       have U36 : updO us 36 (.slice (some ⟨g, 0, none⟩) k c) 36 = (.slice (some ⟨g, 0, none⟩) k c) := upd_sameO _ _ _
       have U37 : updO us 36 (.slice (some ⟨g, 0, none⟩) k c) 37 = us 37 := upd_otherO (by decide)
       have U38 : updO us 36 (.slice (some ⟨g, 0, none⟩) k c) 38 = us 38 := upd_otherO (by decide)
       have U39 : updO us 36 (.slice (some ⟨g, 0, none⟩) k c) 39 = us 39 := upd_otherO (by decide)
       have U40 : updO us 36 (.slice (some ⟨g, 0, none⟩) k c) 40 = us 40 := upd_otherO (by decide)
       have U41 : updO us 36 (.slice (some ⟨g, 0, none⟩) k c) 41 = us 41 := upd_otherO (by decide)
       have U42 : updO us 36 (.slice (some ⟨g, 0, none⟩) k c) 42 = us 42 := upd_otherO (by decide)
       have U43 : updO us 36 (.slice (some ⟨g, 0, none⟩) k c) 43 = us 43 := upd_otherO (by decide)
       have U44 : updO us 36 (.slice (some ⟨g, 0, none⟩) k c) 44 = us 44 := upd_otherO (by decide)
       refine wpOp_step rfl (fun K hK => ?_)
       simp only [frO, e0, e3, e6, e33, e34]
       go_simp
       try (rw [if_pos (by omega)]; go_simp)
       refine hK _ _ ⟨updO us 36 (.slice (some ⟨g, 0, none⟩) k c), by simp [frO, updO, e0, e3, e6, e33, e34], { u0 := (U0.trans I.u0), u3 := (U1.trans I.u3), u6 := (U5.trans I.u6), bel := (I.bel), o1 := (cO U34 I.o1 D1), o2 := (cO U35 I.o2 D2), o3 := (fun _ => U36), o5 := (cO U38 I.o5 D5), o8 := (cO U41 I.o8 D8), o9 := (cO U42 I.o9 D9), o10 := (cO U43 I.o10 D10), o6 := (fun h0 h1 => by rw [U39]; exact I.o6 (D6.symm.trans h0) (D7.symm.trans h1)), r0 := (fun h0 h1 => by rw [U33]; exact I.r0 (D0.symm.trans h0) (D4.symm.trans h1)), r4 := (fun h0 h1 => by rw [U37]; exact I.r4 (D4.symm.trans h0) (D7.symm.trans h1)), r7 := (fun h0 h1 => by rw [U40]; exact I.r7 (D7.symm.trans h0) (D11.symm.trans h1)), r11 := (fun h0 => by rw [U44]; exact I.r11 (D11.symm.trans h0)), s0 := (fun h0 h1 h2 h3 => by rw [U33, U39]; exact I.s0 (D0.symm.trans h0) (D4.symm.trans h1) (D6.symm.trans h2) (D7.symm.trans h3)), s4 := (fun h0 h1 h2 => by rw [U37, U39]; exact I.s4 (D4.symm.trans h0) (D7.symm.trans h1) (D6.symm.trans h2)), o12 := (fun h => by rw [U4, U44, D11]; exact I.o12 (D12.symm.trans h)), i7 := (fun h => D4.trans (I.i7 (D7.symm.trans h))), i11 := (fun h => D7.trans (I.i11 (D11.symm.trans h))) }⟩
      ·
       skip
       have D0 : (d.setIfInBounds 4 true).getD 0 false = d.getD 0 false := getD_set_ne false (by decide)
       have D1 : (d.setIfInBounds 4 true).getD 1 false = d.getD 1 false := getD_set_ne false (by decide)
       have D2 : (d.setIfInBounds 4 true).getD 2 false = d.getD 2 false := getD_set_ne false (by decide)
       have D3 : (d.setIfInBounds 4 true).getD 3 false = d.getD 3 false := getD_set_ne false (by decide)
       have D4 : (d.setIfInBounds 4 true).getD 4 false = true := getD_set_sameO hun
       have D5 : (d.setIfInBounds 4 true).getD 5 false = d.getD 5 false := getD_set_ne false (by decide)
       have D6 : (d.setIfInBounds 4 true).getD 6 false = d.getD 6 false := getD_set_ne false (by decide)
       have D7 : (d.setIfInBounds 4 true).getD 7 false = d.getD 7 false := getD_set_ne false (by decide)
       have D8 : (d.setIfInBounds 4 true).getD 8 false = d.getD 8 false := getD_set_ne false (by decide)
       have D9 : (d.setIfInBounds 4 true).getD 9 false = d.getD 9 false := getD_set_ne false (by decide)
       have D10 : (d.setIfInBounds 4 true).getD 10 false = d.getD 10 false := getD_set_ne false (by decide)
       have D11 : (d.setIfInBounds 4 true).getD 11 false = d.getD 11 false := getD_set_ne false (by decide)
       have D12 : (d.setIfInBounds 4 true).getD 12 false = d.getD 12 false := getD_set_ne false (by decide)
       have e35 := I.o3 (hall ⟨3, .data⟩ (by simp) rfl)
       have h00 := hall ⟨0, .data⟩ (by simp) rfl
       have hRow := I.r0 (hall ⟨0, .data⟩ (by simp) rfl) (getD_tfO hun)
       refine wpOp_append_ptyO rfl rfl (.tmp 33) (.tmp 36) rfl wq.heap.size (us 33) [] rfl hRow (some ⟨g, 0, none⟩) (c) ((ps.take k)) (by show us 36 = _; rw [e35] <;> simp [hl1]) (q1.below I.bel) (.inr ⟨_, _, rfl⟩) (by simp [hl1, hl3] <;> omega) hsz ?_
       intro v W2 hR2 hB hg hv
       have U0 : updO us 37 (v) 0 = us 0 := upd_otherO (by decide)
       have U1 : updO us 37 (v) 1 = us 1 := upd_otherO (by decide)
       have U5 : updO us 37 (v) 5 = us 5 := upd_otherO (by decide)
       have U4 : updO us 37 (v) 4 = us 4 := upd_otherO (by decide)
       have U33 : updO us 37 (v) 33 = us 33 := upd_otherO (by decide)
       have U34 : updO us 37 (v) 34 = us 34 := upd_otherO (by decide)
       have U35 : updO us 37 (v) 35 = us 35 := upd_otherO (by decide)
       have U36 : updO us 37 (v) 36 = us 36 := upd_otherO (by decide)
       have U37 : updO us 37 (v) 37 = (v) := upd_sameO _ _ _
       have U38 : updO us 37 (v) 38 = us 38 := upd_otherO (by decide)
       have U39 : updO us 37 (v) 39 = us 39 := upd_otherO (by decide)
       have U40 : updO us 37 (v) 40 = us 40 := upd_otherO (by decide)
       have U41 : updO us 37 (v) 41 = us 41 := upd_otherO (by decide)
       have U42 : updO us 37 (v) 42 = us 42 := upd_otherO (by decide)
       have U43 : updO us 37 (v) 43 = us 43 := upd_otherO (by decide)
       have U44 : updO us 37 (v) 44 = us 44 := upd_otherO (by decide)
       refine ⟨updO us 37 v, by simp [frO, updO, Act.put], { u0 := (U0.trans I.u0), u3 := (U1.trans I.u3), u6 := (U5.trans I.u6), bel := (I.bel.trans hB), o1 := (cO U34 I.o1 D1), o2 := (cO U35 I.o2 D2), o3 := (cO U36 I.o3 D3), o5 := (cO U38 I.o5 D5), o8 := (cO U41 I.o8 D8), o9 := (cO U42 I.o9 D9), o10 := (cO U43 I.o10 D10), o6 := (fun h0 h1 => by rw [U39]; exact (I.o6 (D6.symm.trans h0) (D7.symm.trans h1)).sep (I.s0 h00 (getD_tfO hun) (D6.symm.trans h0) (D7.symm.trans h1)) hg), r0 := (fun h0 h1 => by rw [D4] at h1; cases h1), r4 := (fun _ _ => by rw [U37]; simpa using hR2), r7 := (fun h0 h1 => absurd (I.i7 (D7.symm.trans h0)) (by rw [getD_tfO hun]; exact Bool.false_ne_true)), r11 := (fun h0 => absurd (I.i7 (I.i11 (D11.symm.trans h0))) (by rw [getD_tfO hun]; exact Bool.false_ne_true)), s0 := (fun h0 h1 h2 h3 => by rw [D4] at h1; cases h1), s4 := (fun h0 h1 h2 => by rw [U37, U39]; exact sep_appO (I.o6 (D6.symm.trans h2) (D7.symm.trans h1)) (I.s0 h00 (getD_tfO hun) (D6.symm.trans h2) (D7.symm.trans h1)) hv), o12 := (fun h => by rw [U4, U44, D11]; exact I.o12 (D12.symm.trans h)), i7 := (fun _ => D4), i11 := (fun h => D7.trans (I.i11 (D11.symm.trans h))) }⟩
      ·
       skip
       have D0 : (d.setIfInBounds 5 true).getD 0 false = d.getD 0 false := getD_set_ne false (by decide)
       have D1 : (d.setIfInBounds 5 true).getD 1 false = d.getD 1 false := getD_set_ne false (by decide)
       have D2 : (d.setIfInBounds 5 true).getD 2 false = d.getD 2 false := getD_set_ne false (by decide)
       have D3 : (d.setIfInBounds 5 true).getD 3 false = d.getD 3 false := getD_set_ne false (by decide)
       have D4 : (d.setIfInBounds 5 true).getD 4 false = d.getD 4 false := getD_set_ne false (by decide)
       have D5 : (d.setIfInBounds 5 true).getD 5 false = true := getD_set_sameO hun
       have D6 : (d.setIfInBounds 5 true).getD 6 false = d.getD 6 false := getD_set_ne false (by decide)
       have D7 : (d.setIfInBounds 5 true).getD 7 false = d.getD 7 false := getD_set_ne false (by decide)
       have D8 : (d.setIfInBounds 5 true).getD 8 false = d.getD 8 false := getD_set_ne false (by decide)
       have D9 : (d.setIfInBounds 5 true).getD 9 false = d.getD 9 false := getD_set_ne false (by decide)
       have D10 : (d.setIfInBounds 5 true).getD 10 false = d.getD 10 false := getD_set_ne false (by decide)
       have D11 : (d.setIfInBounds 5 true).getD 11 false = d.getD 11 false := getD_set_ne false (by decide)
       have D12 : (d.setIfInBounds 5 true).getD 12 false = d.getD 12 false := getD_set_ne false (by decide)
       have U0 : updO us 38 (.string ⟨x.toArray⟩) 0 = us 0 := upd_otherO (by decide)
       have U1 : updO us 38 (.string ⟨x.toArray⟩) 1 = us 1 := upd_otherO (by decide)
       have U5 : updO us 38 (.string ⟨x.toArray⟩) 5 = us 5 := upd_otherO (by decide)
       have U4 : updO us 38 (.string ⟨x.toArray⟩) 4 = us 4 := upd_otherO (by decide)
       have U33 : updO us 38 (.string ⟨x.toArray⟩) 33 = us 33 := upd_otherO (by decide)
       have U34 : updO us 38 (.string ⟨x.toArray⟩) 34 = us 34 := upd_otherO (by decide)
       have U35 : updO us 38 (.string ⟨x.toArray⟩) 35 = us 35 := upd_otherO (by decide)
       have U36 : updO us 38 (.string ⟨x.toArray⟩) 36 = us 36 := upd_otherO (by decide)
       have U37 : updO us 38 (.string ⟨x.toArray⟩) 37 = us 37 := upd_otherO (by decide)
       have U38 : updO us 38 (.string ⟨x.toArray⟩) 38 = (.string ⟨x.toArray⟩) := upd_sameO _ _ _
       have U39 : updO us 38 (.string ⟨x.toArray⟩) 39 = us 39 := upd_otherO (by decide)
       have U40 : updO us 38 (.string ⟨x.toArray⟩) 40 = us 40 := upd_otherO (by decide)
       have U41 : updO us 38 (.string ⟨x.toArray⟩) 41 = us 41 := upd_otherO (by decide)
       have U42 : updO us 38 (.string ⟨x.toArray⟩) 42 = us 42 := upd_otherO (by decide)
       have U43 : updO us 38 (.string ⟨x.toArray⟩) 43 = us 43 := upd_otherO (by decide)
       have U44 : updO us 38 (.string ⟨x.toArray⟩) 44 = us 44 := upd_otherO (by decide)
       refine wpOp_step rfl (fun K hK => ?_)
       simp only [frO, e0, e3, e6]
       go_simp
       refine hK _ _ ⟨updO us 38 (.string ⟨x.toArray⟩), by simp [frO, updO, e0, e3, e6], { u0 := (U0.trans I.u0), u3 := (U1.trans I.u3), u6 := (U5.trans I.u6), bel := (I.bel), o1 := (cO U34 I.o1 D1), o2 := (cO U35 I.o2 D2), o3 := (cO U36 I.o3 D3), o5 := (fun _ => U38), o8 := (cO U41 I.o8 D8), o9 := (cO U42 I.o9 D9), o10 := (cO U43 I.o10 D10), o6 := (fun h0 h1 => by rw [U39]; exact I.o6 (D6.symm.trans h0) (D7.symm.trans h1)), r0 := (fun h0 h1 => by rw [U33]; exact I.r0 (D0.symm.trans h0) (D4.symm.trans h1)), r4 := (fun h0 h1 => by rw [U37]; exact I.r4 (D4.symm.trans h0) (D7.symm.trans h1)), r7 := (fun h0 h1 => by rw [U40]; exact I.r7 (D7.symm.trans h0) (D11.symm.trans h1)), r11 := (fun h0 => by rw [U44]; exact I.r11 (D11.symm.trans h0)), s0 := (fun h0 h1 h2 h3 => by rw [U33, U39]; exact I.s0 (D0.symm.trans h0) (D4.symm.trans h1) (D6.symm.trans h2) (D7.symm.trans h3)), s4 := (fun h0 h1 h2 => by rw [U37, U39]; exact I.s4 (D4.symm.trans h0) (D7.symm.trans h1) (D6.symm.trans h2)), o12 := (fun h => by rw [U4, U44, D11]; exact I.o12 (D12.symm.trans h)), i7 := (fun h => D4.trans (I.i7 (D7.symm.trans h))), i11 := (fun h => D7.trans (I.i11 (D11.symm.trans h))) }⟩
      ·
       skip
       have D0 : (d.setIfInBounds 6 true).getD 0 false = d.getD 0 false := getD_set_ne false (by decide)
       have D1 : (d.setIfInBounds 6 true).getD 1 false = d.getD 1 false := getD_set_ne false (by decide)
       have D2 : (d.setIfInBounds 6 true).getD 2 false = d.getD 2 false := getD_set_ne false (by decide)
       have D3 : (d.setIfInBounds 6 true).getD 3 false = d.getD 3 false := getD_set_ne false (by decide)
       have D4 : (d.setIfInBounds 6 true).getD 4 false = d.getD 4 false := getD_set_ne false (by decide)
       have D5 : (d.setIfInBounds 6 true).getD 5 false = d.getD 5 false := getD_set_ne false (by decide)
       have D6 : (d.setIfInBounds 6 true).getD 6 false = true := getD_set_sameO hun
       have D7 : (d.setIfInBounds 6 true).getD 7 false = d.getD 7 false := getD_set_ne false (by decide)
       have D8 : (d.setIfInBounds 6 true).getD 8 false = d.getD 8 false := getD_set_ne false (by decide)
       have D9 : (d.setIfInBounds 6 true).getD 9 false = d.getD 9 false := getD_set_ne false (by decide)
       have D10 : (d.setIfInBounds 6 true).getD 10 false = d.getD 10 false := getD_set_ne false (by decide)
       have D11 : (d.setIfInBounds 6 true).getD 11 false = d.getD 11 false := getD_set_ne false (by decide)
       have D12 : (d.setIfInBounds 6 true).getD 12 false = d.getD 12 false := getD_set_ne false (by decide)
       have e37 := I.o5 (hall ⟨5, .data⟩ (by simp) rfl)
       have U0 : updO us 39 (.slice (some ⟨W.heap.size, 0, none⟩) 1 1) 0 = us 0 := upd_otherO (by decide)
       have U1 : updO us 39 (.slice (some ⟨W.heap.size, 0, none⟩) 1 1) 1 = us 1 := upd_otherO (by decide)
       have U5 : updO us 39 (.slice (some ⟨W.heap.size, 0, none⟩) 1 1) 5 = us 5 := upd_otherO (by decide)
       have U4 : updO us 39 (.slice (some ⟨W.heap.size, 0, none⟩) 1 1) 4 = us 4 := upd_otherO (by decide)
       have U33 : updO us 39 (.slice (some ⟨W.heap.size, 0, none⟩) 1 1) 33 = us 33 := upd_otherO (by decide)
       have U34 : updO us 39 (.slice (some ⟨W.heap.size, 0, none⟩) 1 1) 34 = us 34 := upd_otherO (by decide)
       have U35 : updO us 39 (.slice (some ⟨W.heap.size, 0, none⟩) 1 1) 35 = us 35 := upd_otherO (by decide)
       have U36 : updO us 39 (.slice (some ⟨W.heap.size, 0, none⟩) 1 1) 36 = us 36 := upd_otherO (by decide)
       have U37 : updO us 39 (.slice (some ⟨W.heap.size, 0, none⟩) 1 1) 37 = us 37 := upd_otherO (by decide)
       have U38 : updO us 39 (.slice (some ⟨W.heap.size, 0, none⟩) 1 1) 38 = us 38 := upd_otherO (by decide)
       have U39 : updO us 39 (.slice (some ⟨W.heap.size, 0, none⟩) 1 1) 39 = (.slice (some ⟨W.heap.size, 0, none⟩) 1 1) := upd_sameO _ _ _
       have U40 : updO us 39 (.slice (some ⟨W.heap.size, 0, none⟩) 1 1) 40 = us 40 := upd_otherO (by decide)
       have U41 : updO us 39 (.slice (some ⟨W.heap.size, 0, none⟩) 1 1) 41 = us 41 := upd_otherO (by decide)
       have U42 : updO us 39 (.slice (some ⟨W.heap.size, 0, none⟩) 1 1) 42 = us 42 := upd_otherO (by decide)
       have U43 : updO us 39 (.slice (some ⟨W.heap.size, 0, none⟩) 1 1) 43 = us 43 := upd_otherO (by decide)
       have U44 : updO us 39 (.slice (some ⟨W.heap.size, 0, none⟩) 1 1) 44 = us 44 := upd_otherO (by decide)
       refine wpOp_step rfl (fun K hK => ?_)
       simp only [frO, e0, e3, e6, e37]
       go_simp
       refine hK _ _ ⟨updO us 39 (.slice (some ⟨W.heap.size, 0, none⟩) 1 1), by simp [frO, updO, e0, e3, e6, e37], { u0 := (U0.trans I.u0), u3 := (U1.trans I.u3), u6 := (U5.trans I.u6), bel := (I.bel.alloc hsz _), o1 := (cO U34 I.o1 D1), o2 := (cO U35 I.o2 D2), o3 := (cO U36 I.o3 D3), o5 := (cO U38 I.o5 D5), o8 := (cO U41 I.o8 D8), o9 := (cO U42 I.o9 D9), o10 := (cO U43 I.o10 D10), o6 := (fun _ _ => by rw [U39]; exact ⟨_, rfl, heap_alloc_new W _, hsz⟩), r0 := (fun h0 h1 => by rw [U33]; exact (I.r0 (D0.symm.trans h0) (D4.symm.trans h1)).below (below_alloc _ _)), r4 := (fun h0 h1 => by rw [U37]; exact (I.r4 (D4.symm.trans h0) (D7.symm.trans h1)).below (below_alloc _ _)), r7 := (fun h0 h1 => by rw [U40]; exact (I.r7 (D7.symm.trans h0) (D11.symm.trans h1)).below (below_alloc _ _)), r11 := (fun h0 => by rw [U44]; exact (I.r11 (D11.symm.trans h0)).below (below_alloc _ _)), s0 := (fun h0 h1 h2 h3 => by rw [U33, U39]; exact sep_ltO fun k hk => (I.r0 (D0.symm.trans h0) (D4.symm.trans h1)).lt hk), s4 := (fun h0 h1 h2 => by rw [U37, U39]; exact sep_ltO fun k hk => (I.r4 (D4.symm.trans h0) (D7.symm.trans h1)).lt hk), o12 := (fun h => by rw [U4, U44, D11]; exact I.o12 (D12.symm.trans h)), i7 := (fun h => D4.trans (I.i7 (D7.symm.trans h))), i11 := (fun h => D7.trans (I.i11 (D11.symm.trans h))) }⟩
      ·
       skip
       have D0 : (d.setIfInBounds 7 true).getD 0 false = d.getD 0 false := getD_set_ne false (by decide)
       have D1 : (d.setIfInBounds 7 true).getD 1 false = d.getD 1 false := getD_set_ne false (by decide)
       have D2 : (d.setIfInBounds 7 true).getD 2 false = d.getD 2 false := getD_set_ne false (by decide)
       have D3 : (d.setIfInBounds 7 true).getD 3 false = d.getD 3 false := getD_set_ne false (by decide)
       have D4 : (d.setIfInBounds 7 true).getD 4 false = d.getD 4 false := getD_set_ne false (by decide)
       have D5 : (d.setIfInBounds 7 true).getD 5 false = d.getD 5 false := getD_set_ne false (by decide)
       have D6 : (d.setIfInBounds 7 true).getD 6 false = d.getD 6 false := getD_set_ne false (by decide)
       have D7 : (d.setIfInBounds 7 true).getD 7 false = true := getD_set_sameO hun
       have D8 : (d.setIfInBounds 7 true).getD 8 false = d.getD 8 false := getD_set_ne false (by decide)
       have D9 : (d.setIfInBounds 7 true).getD 9 false = d.getD 9 false := getD_set_ne false (by decide)
       have D10 : (d.setIfInBounds 7 true).getD 10 false = d.getD 10 false := getD_set_ne false (by decide)
       have D11 : (d.setIfInBounds 7 true).getD 11 false = d.getD 11 false := getD_set_ne false (by decide)
       have D12 : (d.setIfInBounds 7 true).getD 12 false = d.getD 12 false := getD_set_ne false (by decide)
       have h44 := hall ⟨4, .data⟩ (by simp) rfl
       obtain ⟨B, e38, hRB⟩ := (I.o6 (hall ⟨6, .data⟩ (by simp) rfl) (getD_tfO hun)).row
       have hRow := I.r4 (hall ⟨4, .data⟩ (by simp) rfl) (getD_tfO hun)
       refine wpOp_append_ptyO rfl rfl (.tmp 37) (.tmp 39) rfl wq.heap.size (us 37) ((ps.take k)) rfl hRow (some ⟨B, 0, none⟩) 1 [x] e38 hRB (.inr ⟨_, _, rfl⟩) (by simp [hl1, hl3] <;> omega) hsz ?_
       intro v W2 hR2 hB hg hv
       have U0 : updO us 40 (v) 0 = us 0 := upd_otherO (by decide)
       have U1 : updO us 40 (v) 1 = us 1 := upd_otherO (by decide)
       have U5 : updO us 40 (v) 5 = us 5 := upd_otherO (by decide)
       have U4 : updO us 40 (v) 4 = us 4 := upd_otherO (by decide)
       have U33 : updO us 40 (v) 33 = us 33 := upd_otherO (by decide)
       have U34 : updO us 40 (v) 34 = us 34 := upd_otherO (by decide)
       have U35 : updO us 40 (v) 35 = us 35 := upd_otherO (by decide)
       have U36 : updO us 40 (v) 36 = us 36 := upd_otherO (by decide)
       have U37 : updO us 40 (v) 37 = us 37 := upd_otherO (by decide)
       have U38 : updO us 40 (v) 38 = us 38 := upd_otherO (by decide)
       have U39 : updO us 40 (v) 39 = us 39 := upd_otherO (by decide)
       have U40 : updO us 40 (v) 40 = (v) := upd_sameO _ _ _
       have U41 : updO us 40 (v) 41 = us 41 := upd_otherO (by decide)
       have U42 : updO us 40 (v) 42 = us 42 := upd_otherO (by decide)
       have U43 : updO us 40 (v) 43 = us 43 := upd_otherO (by decide)
       have U44 : updO us 40 (v) 44 = us 44 := upd_otherO (by decide)
       refine ⟨updO us 40 v, by simp [frO, updO, Act.put], { u0 := (U0.trans I.u0), u3 := (U1.trans I.u3), u6 := (U5.trans I.u6), bel := (I.bel.trans hB), o1 := (cO U34 I.o1 D1), o2 := (cO U35 I.o2 D2), o3 := (cO U36 I.o3 D3), o5 := (cO U38 I.o5 D5), o8 := (cO U41 I.o8 D8), o9 := (cO U42 I.o9 D9), o10 := (cO U43 I.o10 D10), o6 := (fun h0 h1 => by rw [D7] at h1; cases h1), r0 := (fun h0 h1 => absurd h44 (by rw [D4.symm.trans h1]; exact Bool.false_ne_true)), r4 := (fun h0 h1 => by rw [D7] at h1; cases h1), r7 := (fun _ _ => by rw [U40]; exact hR2), r11 := (fun h0 => absurd (I.i11 (D11.symm.trans h0)) (by rw [getD_tfO hun]; exact Bool.false_ne_true)), s0 := (fun h0 h1 h2 h3 => by rw [D7] at h3; cases h3), s4 := (fun h0 h1 h2 => by rw [D7] at h1; cases h1), o12 := (fun h => by rw [U4, U44, D11]; exact I.o12 (D12.symm.trans h)), i7 := (fun _ => D4.trans h44), i11 := (fun _ => D7) }⟩
      ·
       skip
       have D0 : (d.setIfInBounds 8 true).getD 0 false = d.getD 0 false := getD_set_ne false (by decide)
       have D1 : (d.setIfInBounds 8 true).getD 1 false = d.getD 1 false := getD_set_ne false (by decide)
       have D2 : (d.setIfInBounds 8 true).getD 2 false = d.getD 2 false := getD_set_ne false (by decide)
       have D3 : (d.setIfInBounds 8 true).getD 3 false = d.getD 3 false := getD_set_ne false (by decide)
       have D4 : (d.setIfInBounds 8 true).getD 4 false = d.getD 4 false := getD_set_ne false (by decide)
       have D5 : (d.setIfInBounds 8 true).getD 5 false = d.getD 5 false := getD_set_ne false (by decide)
       have D6 : (d.setIfInBounds 8 true).getD 6 false = d.getD 6 false := getD_set_ne false (by decide)
       have D7 : (d.setIfInBounds 8 true).getD 7 false = d.getD 7 false := getD_set_ne false (by decide)
       have D8 : (d.setIfInBounds 8 true).getD 8 false = true := getD_set_sameO hun
       have D9 : (d.setIfInBounds 8 true).getD 9 false = d.getD 9 false := getD_set_ne false (by decide)
       have D10 : (d.setIfInBounds 8 true).getD 10 false = d.getD 10 false := getD_set_ne false (by decide)
       have D11 : (d.setIfInBounds 8 true).getD 11 false = d.getD 11 false := getD_set_ne false (by decide)
       have D12 : (d.setIfInBounds 8 true).getD 12 false = d.getD 12 false := getD_set_ne false (by decide)
       have U0 : updO us 41 (.slice (some ⟨g, 0, none⟩) ps.length c) 0 = us 0 := upd_otherO (by decide)
       have U1 : updO us 41 (.slice (some ⟨g, 0, none⟩) ps.length c) 1 = us 1 := upd_otherO (by decide)
       have U5 : updO us 41 (.slice (some ⟨g, 0, none⟩) ps.length c) 5 = us 5 := upd_otherO (by decide)
       have U4 : updO us 41 (.slice (some ⟨g, 0, none⟩) ps.length c) 4 = us 4 := upd_otherO (by decide)
       have U33 : updO us 41 (.slice (some ⟨g, 0, none⟩) ps.length c) 33 = us 33 := upd_otherO (by decide)
       have U34 : updO us 41 (.slice (some ⟨g, 0, none⟩) ps.length c) 34 = us 34 := upd_otherO (by decide)
       have U35 : updO us 41 (.slice (some ⟨g, 0, none⟩) ps.length c) 35 = us 35 := upd_otherO (by decide)
       have U36 : updO us 41 (.slice (some ⟨g, 0, none⟩) ps.length c) 36 = us 36 := upd_otherO (by decide)
       have U37 : updO us 41 (.slice (some ⟨g, 0, none⟩) ps.length c) 37 = us 37 := upd_otherO (by decide)
       have U38 : updO us 41 (.slice (some ⟨g, 0, none⟩) ps.length c) 38 = us 38 := upd_otherO (by decide)
       have U39 : updO us 41 (.slice (some ⟨g, 0, none⟩) ps.length c) 39 = us 39 := upd_otherO (by decide)
       have U40 : updO us 41 (.slice (some ⟨g, 0, none⟩) ps.length c) 40 = us 40 := upd_otherO (by decide)
       have U41 : updO us 41 (.slice (some ⟨g, 0, none⟩) ps.length c) 41 = (.slice (some ⟨g, 0, none⟩) ps.length c) := upd_sameO _ _ _
       have U42 : updO us 41 (.slice (some ⟨g, 0, none⟩) ps.length c) 42 = us 42 := upd_otherO (by decide)
       have U43 : updO us 41 (.slice (some ⟨g, 0, none⟩) ps.length c) 43 = us 43 := upd_otherO (by decide)
       have U44 : updO us 41 (.slice (some ⟨g, 0, none⟩) ps.length c) 44 = us 44 := upd_otherO (by decide)
       refine wpOp_step rfl (fun K hK => ?_)
       simp only [frO, e0, e3, e6]
       go_simp
       refine hK _ _ ⟨updO us 41 (.slice (some ⟨g, 0, none⟩) ps.length c), by simp [frO, updO, e0, e3, e6], { u0 := (U0.trans I.u0), u3 := (U1.trans I.u3), u6 := (U5.trans I.u6), bel := (I.bel), o1 := (cO U34 I.o1 D1), o2 := (cO U35 I.o2 D2), o3 := (cO U36 I.o3 D3), o5 := (cO U38 I.o5 D5), o8 := (fun _ => U41), o9 := (cO U42 I.o9 D9), o10 := (cO U43 I.o10 D10), o6 := (fun h0 h1 => by rw [U39]; exact I.o6 (D6.symm.trans h0) (D7.symm.trans h1)), r0 := (fun h0 h1 => by rw [U33]; exact I.r0 (D0.symm.trans h0) (D4.symm.trans h1)), r4 := (fun h0 h1 => by rw [U37]; exact I.r4 (D4.symm.trans h0) (D7.symm.trans h1)), r7 := (fun h0 h1 => by rw [U40]; exact I.r7 (D7.symm.trans h0) (D11.symm.trans h1)), r11 := (fun h0 => by rw [U44]; exact I.r11 (D11.symm.trans h0)), s0 := (fun h0 h1 h2 h3 => by rw [U33, U39]; exact I.s0 (D0.symm.trans h0) (D4.symm.trans h1) (D6.symm.trans h2) (D7.symm.trans h3)), s4 := (fun h0 h1 h2 => by rw [U37, U39]; exact I.s4 (D4.symm.trans h0) (D7.symm.trans h1) (D6.symm.trans h2)), o12 := (fun h => by rw [U4, U44, D11]; exact I.o12 (D12.symm.trans h)), i7 := (fun h => D4.trans (I.i7 (D7.symm.trans h))), i11 := (fun h => D7.trans (I.i11 (D11.symm.trans h))) }⟩
      ·
       skip
       have D0 : (d.setIfInBounds 9 true).getD 0 false = d.getD 0 false := getD_set_ne false (by decide)
       have D1 : (d.setIfInBounds 9 true).getD 1 false = d.getD 1 false := getD_set_ne false (by decide)
       have D2 : (d.setIfInBounds 9 true).getD 2 false = d.getD 2 false := getD_set_ne false (by decide)
       have D3 : (d.setIfInBounds 9 true).getD 3 false = d.getD 3 false := getD_set_ne false (by decide)
       have D4 : (d.setIfInBounds 9 true).getD 4 false = d.getD 4 false := getD_set_ne false (by decide)
       have D5 : (d.setIfInBounds 9 true).getD 5 false = d.getD 5 false := getD_set_ne false (by decide)
       have D6 : (d.setIfInBounds 9 true).getD 6 false = d.getD 6 false := getD_set_ne false (by decide)
       have D7 : (d.setIfInBounds 9 true).getD 7 false = d.getD 7 false := getD_set_ne false (by decide)
       have D8 : (d.setIfInBounds 9 true).getD 8 false = d.getD 8 false := getD_set_ne false (by decide)
       have D9 : (d.setIfInBounds 9 true).getD 9 false = true := getD_set_sameO hun
       have D10 : (d.setIfInBounds 9 true).getD 10 false = d.getD 10 false := getD_set_ne false (by decide)
       have D11 : (d.setIfInBounds 9 true).getD 11 false = d.getD 11 false := getD_set_ne false (by decide)
       have D12 : (d.setIfInBounds 9 true).getD 12 false = d.getD 12 false := getD_set_ne false (by decide)
       have U0 : updO us 42 (.int .i64 ((k : Nat) : Int)) 0 = us 0 := upd_otherO (by decide)
       have U1 : updO us 42 (.int .i64 ((k : Nat) : Int)) 1 = us 1 := upd_otherO (by decide)
       have U5 : updO us 42 (.int .i64 ((k : Nat) : Int)) 5 = us 5 := upd_otherO (by decide)
       have U4 : updO us 42 (.int .i64 ((k : Nat) : Int)) 4 = us 4 := upd_otherO (by decide)
       have U33 : updO us 42 (.int .i64 ((k : Nat) : Int)) 33 = us 33 := upd_otherO (by decide)
       have U34 : updO us 42 (.int .i64 ((k : Nat) : Int)) 34 = us 34 := upd_otherO (by decide)
       have U35 : updO us 42 (.int .i64 ((k : Nat) : Int)) 35 = us 35 := upd_otherO (by decide)
       have U36 : updO us 42 (.int .i64 ((k : Nat) : Int)) 36 = us 36 := upd_otherO (by decide)
       have U37 : updO us 42 (.int .i64 ((k : Nat) : Int)) 37 = us 37 := upd_otherO (by decide)
       have U38 : updO us 42 (.int .i64 ((k : Nat) : Int)) 38 = us 38 := upd_otherO (by decide)
       have U39 : updO us 42 (.int .i64 ((k : Nat) : Int)) 39 = us 39 := upd_otherO (by decide)
       have U40 : updO us 42 (.int .i64 ((k : Nat) : Int)) 40 = us 40 := upd_otherO (by decide)
       have U41 : updO us 42 (.int .i64 ((k : Nat) : Int)) 41 = us 41 := upd_otherO (by decide)
       have U42 : updO us 42 (.int .i64 ((k : Nat) : Int)) 42 = (.int .i64 ((k : Nat) : Int)) := upd_sameO _ _ _
       have U43 : updO us 42 (.int .i64 ((k : Nat) : Int)) 43 = us 43 := upd_otherO (by decide)
       have U44 : updO us 42 (.int .i64 ((k : Nat) : Int)) 44 = us 44 := upd_otherO (by decide)
       refine wpOp_step rfl (fun K hK => ?_)
       simp only [frO, e0, e3, e6]
       go_simp
       refine hK _ _ ⟨updO us 42 (.int .i64 ((k : Nat) : Int)), by simp [frO, updO, e0, e3, e6], { u0 := (U0.trans I.u0), u3 := (U1.trans I.u3), u6 := (U5.trans I.u6), bel := (I.bel), o1 := (cO U34 I.o1 D1), o2 := (cO U35 I.o2 D2), o3 := (cO U36 I.o3 D3), o5 := (cO U38 I.o5 D5), o8 := (cO U41 I.o8 D8), o9 := (fun _ => U42), o10 := (cO U43 I.o10 D10), o6 := (fun h0 h1 => by rw [U39]; exact I.o6 (D6.symm.trans h0) (D7.symm.trans h1)), r0 := (fun h0 h1 => by rw [U33]; exact I.r0 (D0.symm.trans h0) (D4.symm.trans h1)), r4 := (fun h0 h1 => by rw [U37]; exact I.r4 (D4.symm.trans h0) (D7.symm.trans h1)), r7 := (fun h0 h1 => by rw [U40]; exact I.r7 (D7.symm.trans h0) (D11.symm.trans h1)), r11 := (fun h0 => by rw [U44]; exact I.r11 (D11.symm.trans h0)), s0 := (fun h0 h1 h2 h3 => by rw [U33, U39]; exact I.s0 (D0.symm.trans h0) (D4.symm.trans h1) (D6.symm.trans h2) (D7.symm.trans h3)), s4 := (fun h0 h1 h2 => by rw [U37, U39]; exact I.s4 (D4.symm.trans h0) (D7.symm.trans h1) (D6.symm.trans h2)), o12 := (fun h => by rw [U4, U44, D11]; exact I.o12 (D12.symm.trans h)), i7 := (fun h => D4.trans (I.i7 (D7.symm.trans h))), i11 := (fun h => D7.trans (I.i11 (D11.symm.trans h))) }⟩
      ·
       skip
       have D0 : (d.setIfInBounds 10 true).getD 0 false = d.getD 0 false := getD_set_ne false (by decide)
       have D1 : (d.setIfInBounds 10 true).getD 1 false = d.getD 1 false := getD_set_ne false (by decide)
       have D2 : (d.setIfInBounds 10 true).getD 2 false = d.getD 2 false := getD_set_ne false (by decide)
       have D3 : (d.setIfInBounds 10 true).getD 3 false = d.getD 3 false := getD_set_ne false (by decide)
       have D4 : (d.setIfInBounds 10 true).getD 4 false = d.getD 4 false := getD_set_ne false (by decide)
       have D5 : (d.setIfInBounds 10 true).getD 5 false = d.getD 5 false := getD_set_ne false (by decide)
       have D6 : (d.setIfInBounds 10 true).getD 6 false = d.getD 6 false := getD_set_ne false (by decide)
       have D7 : (d.setIfInBounds 10 true).getD 7 false = d.getD 7 false := getD_set_ne false (by decide)
       have D8 : (d.setIfInBounds 10 true).getD 8 false = d.getD 8 false := getD_set_ne false (by decide)
       have D9 : (d.setIfInBounds 10 true).getD 9 false = d.getD 9 false := getD_set_ne false (by decide)
       have D10 : (d.setIfInBounds 10 true).getD 10 false = true := getD_set_sameO hun
       have D11 : (d.setIfInBounds 10 true).getD 11 false = d.getD 11 false := getD_set_ne false (by decide)
       have D12 : (d.setIfInBounds 10 true).getD 12 false = d.getD 12 false := getD_set_ne false (by decide)
       have e40 := I.o8 (hall ⟨8, .data⟩ (by simp) rfl)
       have e41 := I.o9 (hall ⟨9, .data⟩ (by simp) rfl)
       have U0 : updO us 43 (.slice (some ⟨g, k, none⟩) (ps.length - k) (c - k)) 0 = us 0 := upd_otherO (by decide)
       have U1 : updO us 43 (.slice (some ⟨g, k, none⟩) (ps.length - k) (c - k)) 1 = us 1 := upd_otherO (by decide)
       have U5 : updO us 43 (.slice (some ⟨g, k, none⟩) (ps.length - k) (c - k)) 5 = us 5 := upd_otherO (by decide)
       have U4 : updO us 43 (.slice (some ⟨g, k, none⟩) (ps.length - k) (c - k)) 4 = us 4 := upd_otherO (by decide)
       have U33 : updO us 43 (.slice (some ⟨g, k, none⟩) (ps.length - k) (c - k)) 33 = us 33 := upd_otherO (by decide)
       have U34 : updO us 43 (.slice (some ⟨g, k, none⟩) (ps.length - k) (c - k)) 34 = us 34 := upd_otherO (by decide)
       have U35 : updO us 43 (.slice (some ⟨g, k, none⟩) (ps.length - k) (c - k)) 35 = us 35 := upd_otherO (by decide)
       have U36 : updO us 43 (.slice (some ⟨g, k, none⟩) (ps.length - k) (c - k)) 36 = us 36 := upd_otherO (by decide)
       have U37 : updO us 43 (.slice (some ⟨g, k, none⟩) (ps.length - k) (c - k)) 37 = us 37 := upd_otherO (by decide)
       have U38 : updO us 43 (.slice (some ⟨g, k, none⟩) (ps.length - k) (c - k)) 38 = us 38 := upd_otherO (by decide)
       have U39 : updO us 43 (.slice (some ⟨g, k, none⟩) (ps.length - k) (c - k)) 39 = us 39 := upd_otherO (by decide)
       have U40 : updO us 43 (.slice (some ⟨g, k, none⟩) (ps.length - k) (c - k)) 40 = us 40 := upd_otherO (by decide)
       have U41 : updO us 43 (.slice (some ⟨g, k, none⟩) (ps.length - k) (c - k)) 41 = us 41 := upd_otherO (by decide)
       have U42 : updO us 43 (.slice (some ⟨g, k, none⟩) (ps.length - k) (c - k)) 42 = us 42 := upd_otherO (by decide)
       have U43 : updO us 43 (.slice (some ⟨g, k, none⟩) (ps.length - k) (c - k)) 43 = (.slice (some ⟨g, k, none⟩) (ps.length - k) (c - k)) := upd_sameO _ _ _
       have U44 : updO us 43 (.slice (some ⟨g, k, none⟩) (ps.length - k) (c - k)) 44 = us 44 := upd_otherO (by decide)
       refine wpOp_step rfl (fun K hK => ?_)
       simp only [frO, e0, e3, e6, e40, e41]
       go_simp
       try (rw [if_pos (by omega)]; go_simp)
       refine hK _ _ ⟨updO us 43 (.slice (some ⟨g, k, none⟩) (ps.length - k) (c - k)), by simp [frO, updO, e0, e3, e6, e40, e41, e1s], { u0 := (U0.trans I.u0), u3 := (U1.trans I.u3), u6 := (U5.trans I.u6), bel := (I.bel), o1 := (cO U34 I.o1 D1), o2 := (cO U35 I.o2 D2), o3 := (cO U36 I.o3 D3), o5 := (cO U38 I.o5 D5), o8 := (cO U41 I.o8 D8), o9 := (cO U42 I.o9 D9), o10 := (fun _ => U43), o6 := (fun h0 h1 => by rw [U39]; exact I.o6 (D6.symm.trans h0) (D7.symm.trans h1)), r0 := (fun h0 h1 => by rw [U33]; exact I.r0 (D0.symm.trans h0) (D4.symm.trans h1)), r4 := (fun h0 h1 => by rw [U37]; exact I.r4 (D4.symm.trans h0) (D7.symm.trans h1)), r7 := (fun h0 h1 => by rw [U40]; exact I.r7 (D7.symm.trans h0) (D11.symm.trans h1)), r11 := (fun h0 => by rw [U44]; exact I.r11 (D11.symm.trans h0)), s0 := (fun h0 h1 h2 h3 => by rw [U33, U39]; exact I.s0 (D0.symm.trans h0) (D4.symm.trans h1) (D6.symm.trans h2) (D7.symm.trans h3)), s4 := (fun h0 h1 h2 => by rw [U37, U39]; exact I.s4 (D4.symm.trans h0) (D7.symm.trans h1) (D6.symm.trans h2)), o12 := (fun h => by rw [U4, U44, D11]; exact I.o12 (D12.symm.trans h)), i7 := (fun h => D4.trans (I.i7 (D7.symm.trans h))), i11 := (fun h => D7.trans (I.i11 (D11.symm.trans h))) }⟩
      ·
       skip
       have D0 : (d.setIfInBounds 11 true).getD 0 false = d.getD 0 false := getD_set_ne false (by decide)
       have D1 : (d.setIfInBounds 11 true).getD 1 false = d.getD 1 false := getD_set_ne false (by decide)
       have D2 : (d.setIfInBounds 11 true).getD 2 false = d.getD 2 false := getD_set_ne false (by decide)
       have D3 : (d.setIfInBounds 11 true).getD 3 false = d.getD 3 false := getD_set_ne false (by decide)
       have D4 : (d.setIfInBounds 11 true).getD 4 false = d.getD 4 false := getD_set_ne false (by decide)
       have D5 : (d.setIfInBounds 11 true).getD 5 false = d.getD 5 false := getD_set_ne false (by decide)
       have D6 : (d.setIfInBounds 11 true).getD 6 false = d.getD 6 false := getD_set_ne false (by decide)
       have D7 : (d.setIfInBounds 11 true).getD 7 false = d.getD 7 false := getD_set_ne false (by decide)
       have D8 : (d.setIfInBounds 11 true).getD 8 false = d.getD 8 false := getD_set_ne false (by decide)
       have D9 : (d.setIfInBounds 11 true).getD 9 false = d.getD 9 false := getD_set_ne false (by decide)
       have D10 : (d.setIfInBounds 11 true).getD 10 false = d.getD 10 false := getD_set_ne false (by decide)
       have D11 : (d.setIfInBounds 11 true).getD 11 false = true := getD_set_sameO hun
       have D12 : (d.setIfInBounds 11 true).getD 12 false = d.getD 12 false := getD_set_ne false (by decide)
       have e42 := I.o10 (hall ⟨10, .data⟩ (by simp) rfl)
       have h77 := hall ⟨7, .data⟩ (by simp) rfl
       have hRow := I.r7 (hall ⟨7, .data⟩ (by simp) rfl) (getD_tfO hun)
       refine wpOp_append_ptyO rfl rfl (.tmp 40) (.tmp 43) rfl wq.heap.size (us 40) ((ps.take k) ++ [x]) rfl hRow (some ⟨g, k, none⟩) ((c - k)) ((ps.drop k)) (by show us 43 = _; rw [e42] <;> simp [hl3]) (q3.below I.bel) (.inr ⟨_, _, rfl⟩) (by simp [hl1, hl3] <;> omega) hsz ?_
       intro v W2 hR2 hB hg hv
       have U0 : updO us 44 (v) 0 = us 0 := upd_otherO (by decide)
       have U1 : updO us 44 (v) 1 = us 1 := upd_otherO (by decide)
       have U5 : updO us 44 (v) 5 = us 5 := upd_otherO (by decide)
       have U4 : updO us 44 (v) 4 = us 4 := upd_otherO (by decide)
       have U33 : updO us 44 (v) 33 = us 33 := upd_otherO (by decide)
       have U34 : updO us 44 (v) 34 = us 34 := upd_otherO (by decide)
       have U35 : updO us 44 (v) 35 = us 35 := upd_otherO (by decide)
       have U36 : updO us 44 (v) 36 = us 36 := upd_otherO (by decide)
       have U37 : updO us 44 (v) 37 = us 37 := upd_otherO (by decide)
       have U38 : updO us 44 (v) 38 = us 38 := upd_otherO (by decide)
       have U39 : updO us 44 (v) 39 = us 39 := upd_otherO (by decide)
       have U40 : updO us 44 (v) 40 = us 40 := upd_otherO (by decide)
       have U41 : updO us 44 (v) 41 = us 41 := upd_otherO (by decide)
       have U42 : updO us 44 (v) 42 = us 42 := upd_otherO (by decide)
       have U43 : updO us 44 (v) 43 = us 43 := upd_otherO (by decide)
       have U44 : updO us 44 (v) 44 = (v) := upd_sameO _ _ _
       refine ⟨updO us 44 v, by simp [frO, updO, Act.put], { u0 := (U0.trans I.u0), u3 := (U1.trans I.u3), u6 := (U5.trans I.u6), bel := (I.bel.trans hB), o1 := (cO U34 I.o1 D1), o2 := (cO U35 I.o2 D2), o3 := (cO U36 I.o3 D3), o5 := (cO U38 I.o5 D5), o8 := (cO U41 I.o8 D8), o9 := (cO U42 I.o9 D9), o10 := (cO U43 I.o10 D10), o6 := (fun h0 h1 => absurd h77 (by rw [D7.symm.trans h1]; exact Bool.false_ne_true)), r0 := (fun h0 h1 => absurd (I.i7 h77) (by rw [D4.symm.trans h1]; exact Bool.false_ne_true)), r4 := (fun h0 h1 => absurd h77 (by rw [D7.symm.trans h1]; exact Bool.false_ne_true)), r7 := (fun h0 h1 => by rw [D11] at h1; cases h1), r11 := (fun _ => by rw [U44]; exact hR2), s0 := (fun h0 h1 h2 h3 => by rw [U33, U39]; exact I.s0 (D0.symm.trans h0) (D4.symm.trans h1) (D6.symm.trans h2) (D7.symm.trans h3)), s4 := (fun h0 h1 h2 => by rw [U37, U39]; exact I.s4 (D4.symm.trans h0) (D7.symm.trans h1) (D6.symm.trans h2)), o12 := (fun h => absurd (I.o12 (D12.symm.trans h)).2 (by rw [getD_tfO hun]; exact Bool.false_ne_true)), i7 := (fun h => D4.trans (I.i7 (D7.symm.trans h))), i11 := (fun _ => D7.trans h77) }⟩
      ·
       skip
       have D0 : (d.setIfInBounds 12 true).getD 0 false = d.getD 0 false := getD_set_ne false (by decide)
       have D1 : (d.setIfInBounds 12 true).getD 1 false = d.getD 1 false := getD_set_ne false (by decide)
       have D2 : (d.setIfInBounds 12 true).getD 2 false = d.getD 2 false := getD_set_ne false (by decide)
       have D3 : (d.setIfInBounds 12 true).getD 3 false = d.getD 3 false := getD_set_ne false (by decide)
       have D4 : (d.setIfInBounds 12 true).getD 4 false = d.getD 4 false := getD_set_ne false (by decide)
       have D5 : (d.setIfInBounds 12 true).getD 5 false = d.getD 5 false := getD_set_ne false (by decide)
       have D6 : (d.setIfInBounds 12 true).getD 6 false = d.getD 6 false := getD_set_ne false (by decide)
       have D7 : (d.setIfInBounds 12 true).getD 7 false = d.getD 7 false := getD_set_ne false (by decide)
       have D8 : (d.setIfInBounds 12 true).getD 8 false = d.getD 8 false := getD_set_ne false (by decide)
       have D9 : (d.setIfInBounds 12 true).getD 9 false = d.getD 9 false := getD_set_ne false (by decide)
       have D10 : (d.setIfInBounds 12 true).getD 10 false = d.getD 10 false := getD_set_ne false (by decide)
       have D11 : (d.setIfInBounds 12 true).getD 11 false = d.getD 11 false := getD_set_ne false (by decide)
       have D12 : (d.setIfInBounds 12 true).getD 12 false = true := getD_set_sameO hun
       have h11 := hall ⟨11, .data⟩ (by simp) rfl
       have U0 : updO us 4 (us 44) 0 = us 0 := upd_otherO (by decide)
       have U1 : updO us 4 (us 44) 1 = us 1 := upd_otherO (by decide)
       have U5 : updO us 4 (us 44) 5 = us 5 := upd_otherO (by decide)
       have U4 : updO us 4 (us 44) 4 = (us 44) := upd_sameO _ _ _
       have U33 : updO us 4 (us 44) 33 = us 33 := upd_otherO (by decide)
       have U34 : updO us 4 (us 44) 34 = us 34 := upd_otherO (by decide)
       have U35 : updO us 4 (us 44) 35 = us 35 := upd_otherO (by decide)
       have U36 : updO us 4 (us 44) 36 = us 36 := upd_otherO (by decide)
       have U37 : updO us 4 (us 44) 37 = us 37 := upd_otherO (by decide)
       have U38 : updO us 4 (us 44) 38 = us 38 := upd_otherO (by decide)
       have U39 : updO us 4 (us 44) 39 = us 39 := upd_otherO (by decide)
       have U40 : updO us 4 (us 44) 40 = us 40 := upd_otherO (by decide)
       have U41 : updO us 4 (us 44) 41 = us 41 := upd_otherO (by decide)
       have U42 : updO us 4 (us 44) 42 = us 42 := upd_otherO (by decide)
       have U43 : updO us 4 (us 44) 43 = us 43 := upd_otherO (by decide)
       have U44 : updO us 4 (us 44) 44 = us 44 := upd_otherO (by decide)
       refine wpOp_step rfl (fun K hK => ?_)
       simp only [frO, e0, e3, e6]
       go_simp
       refine hK _ _ ⟨updO us 4 (us 44), by simp [frO, updO, e0, e3, e6], { u0 := (U0.trans I.u0), u3 := (U1.trans I.u3), u6 := (U5.trans I.u6), bel := (I.bel), o1 := (cO U34 I.o1 D1), o2 := (cO U35 I.o2 D2), o3 := (cO U36 I.o3 D3), o5 := (cO U38 I.o5 D5), o8 := (cO U41 I.o8 D8), o9 := (cO U42 I.o9 D9), o10 := (cO U43 I.o10 D10), o6 := (fun h0 h1 => by rw [U39]; exact I.o6 (D6.symm.trans h0) (D7.symm.trans h1)), r0 := (fun h0 h1 => by rw [U33]; exact I.r0 (D0.symm.trans h0) (D4.symm.trans h1)), r4 := (fun h0 h1 => by rw [U37]; exact I.r4 (D4.symm.trans h0) (D7.symm.trans h1)), r7 := (fun h0 h1 => by rw [U40]; exact I.r7 (D7.symm.trans h0) (D11.symm.trans h1)), r11 := (fun h0 => by rw [U44]; exact I.r11 (D11.symm.trans h0)), s0 := (fun h0 h1 h2 h3 => by rw [U33, U39]; exact I.s0 (D0.symm.trans h0) (D4.symm.trans h1) (D6.symm.trans h2) (D7.symm.trans h3)), s4 := (fun h0 h1 h2 => by rw [U37, U39]; exact I.s4 (D4.symm.trans h0) (D7.symm.trans h1) (D6.symm.trans h2)), o12 := (fun _ => ⟨by rw [U4, U44], by rw [D11]; exact h11⟩), i7 := (fun h => D4.trans (I.i7 (D7.symm.trans h))), i11 := (fun h => D7.trans (I.i11 (D11.symm.trans h))) }⟩
     ·
      intro d a W hd hall hI
      obtain ⟨us, rfl, I⟩ := hI
      have D : ∀ k, k < 13 -> d.getD k false = true := fun k hk => by
       have := hall k hk
       have hk2 : k < d.size := by rw [hd]; exact hk
       simp [hk2] at this ⊢; exact this
      obtain ⟨h7, h11⟩ := I.o12 (D 12 (by decide))
      obtain ⟨O, q, e43, hO⟩ := I.r11 h11
      have e7 := h7.trans e43
      have e3 := I.u3
      have hbel := I.bel
      rw [hjoin] at e7 hO
      clear I hall D h7 e43
      simp only [frO, e7]
      go_wp2_with fail
      go_ret
      exact HQ.out _ _ _ hO hbel
  ·
   obtain rfl : k = ps.length := by omega
   have hp : plcU ps x = ps.length := plcU_eq hk hlo.out fun q hq => by have := (List.getElem?_eq_some_iff.1 hq).1; omega
   have hjoin : ps.take ps.length ++ [x] ++ ps.drop ps.length = insU ps x := (insU_at hp (by simp)).symm
   have HQ : Hid (∀ O q (W : World), Ost W w.heap.size O (insU ps x).length q (insU ps x) -> Below w.heap.size w W -> InsO w base (insU ps x) (.returned (.slice O (insU ps x).length q)) W) := Lib.hid fun O q W h1 h2 => ⟨O, q, rfl, own_monoI h1 hb0, h2.mono hb0⟩
   clear hlo hp
   by_cases hcc : ps.length = c
   ·
    subst hcc
    rw [List.take_length, List.drop_length] at hjoin
    have q1 := hR0
    have q3 : Sr w (some ⟨g, 0, none⟩) ([] : List (List UInt8)) := Sr.noneO
    obtain ⟨wq, hwq⟩ : ∃ wq, wq = w := ⟨_, rfl⟩
    go_wp2_with fail
    subst hwq
    have hl1 : (ps).length = ps.length := by rfl
    have hl3 : (([] : List (List UInt8))).length = 0 := by rfl
    refine region_inv (by kernel_rfl) (by kernel_rfl) (fun d a W => ∃ us, a = frO us /\ InvO wq.heap.size (ps.length) (ps.length) (ps.length) (some ⟨g, 0, none⟩) (.slice (some ⟨g, 0, none⟩) ps.length ps.length) (.slice (some ⟨g, 0, none⟩) 0 0) (ps) (([] : List (List UInt8))) x wq d us W) ?_ ?_ ?_
    ·
     refine ⟨_, frO_of, ?_⟩
     have Z : ∀ k, (Array.replicate 13 false).getD k false = false := fun k => by
      rcases Nat.lt_or_ge k 13 with h | h
      ·
       simp [h]
      ·
       simp [Array.getElem?_eq_none, h]
     have Zn : ∀ {k : Nat} {p : Prop}, (Array.replicate 13 false).getD k false = true -> p := fun {k p} h => by rw [Z k] at h; cases h
     exact { u0 := rfl, u3 := rfl, u6 := rfl, bel := (Below.refl _ _).drew, o1 := Zn, o2 := Zn, o3 := Zn, o5 := Zn, o8 := Zn, o9 := Zn, o10 := Zn, o6 := Zn, r0 := Zn, r4 := Zn, r7 := Zn, r11 := Zn, s0 := Zn, s4 := Zn, o12 := Zn, i7 := Zn, i11 := Zn }
    ·
     intro i d a W hi hI
     obtain ⟨hun, oi, hoi, hall⟩ := mem_ready.1 hi
     have hlt : i < 13 := (Array.getElem?_eq_some_iff.1 hoi).1
     obtain ⟨us, rfl, I⟩ := hI
     have hsz : wq.heap.size <= W.heap.size := I.bel.size
     have e0 := I.u0
     have e3 := I.u3
     have e6 := I.u6
     rcases (by omega : i = 0 ∨ i = 1 ∨ i = 2 ∨ i = 3 ∨ i = 4 ∨ i = 5 ∨ i = 6 ∨ i = 7 ∨ i = 8 ∨ i = 9 ∨ i = 10 ∨ i = 11 ∨ i = 12) with rfl | rfl | rfl | rfl | rfl | rfl | rfl | rfl | rfl | rfl | rfl | rfl | rfl
     all_goals
      obtain rfl := Option.some.inj hoi
      clear hoi hlt hi
     ·
      skip
      have D0 : (d.setIfInBounds 0 true).getD 0 false = true := getD_set_sameO hun
      have D1 : (d.setIfInBounds 0 true).getD 1 false = d.getD 1 false := getD_set_ne false (by decide)
      have D2 : (d.setIfInBounds 0 true).getD 2 false = d.getD 2 false := getD_set_ne false (by decide)
      have D3 : (d.setIfInBounds 0 true).getD 3 false = d.getD 3 false := getD_set_ne false (by decide)
      have D4 : (d.setIfInBounds 0 true).getD 4 false = d.getD 4 false := getD_set_ne false (by decide)
      have D5 : (d.setIfInBounds 0 true).getD 5 false = d.getD 5 false := getD_set_ne false (by decide)
      have D6 : (d.setIfInBounds 0 true).getD 6 false = d.getD 6 false := getD_set_ne false (by decide)
      have D7 : (d.setIfInBounds 0 true).getD 7 false = d.getD 7 false := getD_set_ne false (by decide)
      have D8 : (d.setIfInBounds 0 true).getD 8 false = d.getD 8 false := getD_set_ne false (by decide)
      have D9 : (d.setIfInBounds 0 true).getD 9 false = d.getD 9 false := getD_set_ne false (by decide)
      have D10 : (d.setIfInBounds 0 true).getD 10 false = d.getD 10 false := getD_set_ne false (by decide)
      have D11 : (d.setIfInBounds 0 true).getD 11 false = d.getD 11 false := getD_set_ne false (by decide)
      have D12 : (d.setIfInBounds 0 true).getD 12 false = d.getD 12 false := getD_set_ne false (by decide)
      have U0 : updO us 33 (.slice (some ⟨W.heap.size, 0, none⟩) 0 0) 0 = us 0 := upd_otherO (by decide)
      have U1 : updO us 33 (.slice (some ⟨W.heap.size, 0, none⟩) 0 0) 1 = us 1 := upd_otherO (by decide)
      have U5 : updO us 33 (.slice (some ⟨W.heap.size, 0, none⟩) 0 0) 5 = us 5 := upd_otherO (by decide)
      have U4 : updO us 33 (.slice (some ⟨W.heap.size, 0, none⟩) 0 0) 4 = us 4 := upd_otherO (by decide)
      have U33 : updO us 33 (.slice (some ⟨W.heap.size, 0, none⟩) 0 0) 33 = (.slice (some ⟨W.heap.size, 0, none⟩) 0 0) := upd_sameO _ _ _
      have U34 : updO us 33 (.slice (some ⟨W.heap.size, 0, none⟩) 0 0) 34 = us 34 := upd_otherO (by decide)
      have U35 : updO us 33 (.slice (some ⟨W.heap.size, 0, none⟩) 0 0) 35 = us 35 := upd_otherO (by decide)
      have U36 : updO us 33 (.slice (some ⟨W.heap.size, 0, none⟩) 0 0) 36 = us 36 := upd_otherO (by decide)
      have U37 : updO us 33 (.slice (some ⟨W.heap.size, 0, none⟩) 0 0) 37 = us 37 := upd_otherO (by decide)
      have U38 : updO us 33 (.slice (some ⟨W.heap.size, 0, none⟩) 0 0) 38 = us 38 := upd_otherO (by decide)
      have U39 : updO us 33 (.slice (some ⟨W.heap.size, 0, none⟩) 0 0) 39 = us 39 := upd_otherO (by decide)
      have U40 : updO us 33 (.slice (some ⟨W.heap.size, 0, none⟩) 0 0) 40 = us 40 := upd_otherO (by decide)
      have U41 : updO us 33 (.slice (some ⟨W.heap.size, 0, none⟩) 0 0) 41 = us 41 := upd_otherO (by decide)
      have U42 : updO us 33 (.slice (some ⟨W.heap.size, 0, none⟩) 0 0) 42 = us 42 := upd_otherO (by decide)
      have U43 : updO us 33 (.slice (some ⟨W.heap.size, 0, none⟩) 0 0) 43 = us 43 := upd_otherO (by decide)
      have U44 : updO us 33 (.slice (some ⟨W.heap.size, 0, none⟩) 0 0) 44 = us 44 := upd_otherO (by decide)
      refine wpOp_step rfl (fun K hK => ?_)
      simp only [frO, e0, e3, e6]
      go_simp
      refine hK _ _ ⟨updO us 33 (.slice (some ⟨W.heap.size, 0, none⟩) 0 0), by simp [frO, updO, e0, e3, e6], { u0 := (U0.trans I.u0), u3 := (U1.trans I.u3), u6 := (U5.trans I.u6), bel := (I.bel.alloc hsz _), o1 := (cO U34 I.o1 D1), o2 := (cO U35 I.o2 D2), o3 := (cO U36 I.o3 D3), o5 := (cO U38 I.o5 D5), o8 := (cO U41 I.o8 D8), o9 := (cO U42 I.o9 D9), o10 := (cO U43 I.o10 D10), o6 := (fun h0 h1 => by rw [U39]; exact (I.o6 (D6.symm.trans h0) (D7.symm.trans h1)).below (below_alloc _ _)), r0 := (fun h0 h1 => by rw [U33]; exact ⟨_, _, rfl, made0i _ _ _ _ hsz⟩), r4 := (fun h0 h1 => by rw [U37]; exact (I.r4 (D4.symm.trans h0) (D7.symm.trans h1)).below (below_alloc _ _)), r7 := (fun h0 h1 => by rw [U40]; exact (I.r7 (D7.symm.trans h0) (D11.symm.trans h1)).below (below_alloc _ _)), r11 := (fun h0 => by rw [U44]; exact (I.r11 (D11.symm.trans h0)).below (below_alloc _ _)), s0 := (fun h0 h1 h2 h3 => by rw [U33, U39]; exact sep_gtO fun k hk => (I.o6 (D6.symm.trans h2) (D7.symm.trans h3)).lt hk), s4 := (fun h0 h1 h2 => by rw [U37, U39]; exact I.s4 (D4.symm.trans h0) (D7.symm.trans h1) (D6.symm.trans h2)), o12 := (fun h => by rw [U4, U44, D11]; exact I.o12 (D12.symm.trans h)), i7 := (fun h => D4.trans (I.i7 (D7.symm.trans h))), i11 := (fun h => D7.trans (I.i11 (D11.symm.trans h))) }⟩
     ·
      skip
      have D0 : (d.setIfInBounds 1 true).getD 0 false = d.getD 0 false := getD_set_ne false (by decide)
      have D1 : (d.setIfInBounds 1 true).getD 1 false = true := getD_set_sameO hun
      have D2 : (d.setIfInBounds 1 true).getD 2 false = d.getD 2 false := getD_set_ne false (by decide)
      have D3 : (d.setIfInBounds 1 true).getD 3 false = d.getD 3 false := getD_set_ne false (by decide)
      have D4 : (d.setIfInBounds 1 true).getD 4 false = d.getD 4 false := getD_set_ne false (by decide)
      have D5 : (d.setIfInBounds 1 true).getD 5 false = d.getD 5 false := getD_set_ne false (by decide)
      have D6 : (d.setIfInBounds 1 true).getD 6 false = d.getD 6 false := getD_set_ne false (by decide)
      have D7 : (d.setIfInBounds 1 true).getD 7 false = d.getD 7 false := getD_set_ne false (by decide)
      have D8 : (d.setIfInBounds 1 true).getD 8 false = d.getD 8 false := getD_set_ne false (by decide)
      have D9 : (d.setIfInBounds 1 true).getD 9 false = d.getD 9 false := getD_set_ne false (by decide)
      have D10 : (d.setIfInBounds 1 true).getD 10 false = d.getD 10 false := getD_set_ne false (by decide)
      have D11 : (d.setIfInBounds 1 true).getD 11 false = d.getD 11 false := getD_set_ne false (by decide)
      have D12 : (d.setIfInBounds 1 true).getD 12 false = d.getD 12 false := getD_set_ne false (by decide)
      have U0 : updO us 34 (.slice (some ⟨g, 0, none⟩) ps.length ps.length) 0 = us 0 := upd_otherO (by decide)
      have U1 : updO us 34 (.slice (some ⟨g, 0, none⟩) ps.length ps.length) 1 = us 1 := upd_otherO (by decide)
      have U5 : updO us 34 (.slice (some ⟨g, 0, none⟩) ps.length ps.length) 5 = us 5 := upd_otherO (by decide)
      have U4 : updO us 34 (.slice (some ⟨g, 0, none⟩) ps.length ps.length) 4 = us 4 := upd_otherO (by decide)
      have U33 : updO us 34 (.slice (some ⟨g, 0, none⟩) ps.length ps.length) 33 = us 33 := upd_otherO (by decide)
      have U34 : updO us 34 (.slice (some ⟨g, 0, none⟩) ps.length ps.length) 34 = (.slice (some ⟨g, 0, none⟩) ps.length ps.length) := upd_sameO _ _ _
      have U35 : updO us 34 (.slice (some ⟨g, 0, none⟩) ps.length ps.length) 35 = us 35 := upd_otherO (by decide)
      have U36 : updO us 34 (.slice (some ⟨g, 0, none⟩) ps.length ps.length) 36 = us 36 := upd_otherO (by decide)
      have U37 : updO us 34 (.slice (some ⟨g, 0, none⟩) ps.length ps.length) 37 = us 37 := upd_otherO (by decide)
      have U38 : updO us 34 (.slice (some ⟨g, 0, none⟩) ps.length ps.length) 38 = us 38 := upd_otherO (by decide)
      have U39 : updO us 34 (.slice (some ⟨g, 0, none⟩) ps.length ps.length) 39 = us 39 := upd_otherO (by decide)
      have U40 : updO us 34 (.slice (some ⟨g, 0, none⟩) ps.length ps.length) 40 = us 40 := upd_otherO (by decide)
      have U41 : updO us 34 (.slice (some ⟨g, 0, none⟩) ps.length ps.length) 41 = us 41 := upd_otherO (by decide)
      have U42 : updO us 34 (.slice (some ⟨g, 0, none⟩) ps.length ps.length) 42 = us 42 := upd_otherO (by decide)
      have U43 : updO us 34 (.slice (some ⟨g, 0, none⟩) ps.length ps.length) 43 = us 43 := upd_otherO (by decide)
      have U44 : updO us 34 (.slice (some ⟨g, 0, none⟩) ps.length ps.length) 44 = us 44 := upd_otherO (by decide)
      refine wpOp_step rfl (fun K hK => ?_)
      simp only [frO, e0, e3, e6]
      go_simp
      refine hK _ _ ⟨updO us 34 (.slice (some ⟨g, 0, none⟩) ps.length ps.length), by simp [frO, updO, e0, e3, e6], { u0 := (U0.trans I.u0), u3 := (U1.trans I.u3), u6 := (U5.trans I.u6), bel := (I.bel), o1 := (fun _ => U34), o2 := (cO U35 I.o2 D2), o3 := (cO U36 I.o3 D3), o5 := (cO U38 I.o5 D5), o8 := (cO U41 I.o8 D8), o9 := (cO U42 I.o9 D9), o10 := (cO U43 I.o10 D10), o6 := (fun h0 h1 => by rw [U39]; exact I.o6 (D6.symm.trans h0) (D7.symm.trans h1)), r0 := (fun h0 h1 => by rw [U33]; exact I.r0 (D0.symm.trans h0) (D4.symm.trans h1)), r4 := (fun h0 h1 => by rw [U37]; exact I.r4 (D4.symm.trans h0) (D7.symm.trans h1)), r7 := (fun h0 h1 => by rw [U40]; exact I.r7 (D7.symm.trans h0) (D11.symm.trans h1)), r11 := (fun h0 => by rw [U44]; exact I.r11 (D11.symm.trans h0)), s0 := (fun h0 h1 h2 h3 => by rw [U33, U39]; exact I.s0 (D0.symm.trans h0) (D4.symm.trans h1) (D6.symm.trans h2) (D7.symm.trans h3)), s4 := (fun h0 h1 h2 => by rw [U37, U39]; exact I.s4 (D4.symm.trans h0) (D7.symm.trans h1) (D6.symm.trans h2)), o12 := (fun h => by rw [U4, U44, D11]; exact I.o12 (D12.symm.trans h)), i7 := (fun h => D4.trans (I.i7 (D7.symm.trans h))), i11 := (fun h => D7.trans (I.i11 (D11.symm.trans h))) }⟩
     ·
      skip
      have D0 : (d.setIfInBounds 2 true).getD 0 false = d.getD 0 false := getD_set_ne false (by decide)
      have D1 : (d.setIfInBounds 2 true).getD 1 false = d.getD 1 false := getD_set_ne false (by decide)
      have D2 : (d.setIfInBounds 2 true).getD 2 false = true := getD_set_sameO hun
      have D3 : (d.setIfInBounds 2 true).getD 3 false = d.getD 3 false := getD_set_ne false (by decide)
      have D4 : (d.setIfInBounds 2 true).getD 4 false = d.getD 4 false := getD_set_ne false (by decide)
      have D5 : (d.setIfInBounds 2 true).getD 5 false = d.getD 5 false := getD_set_ne false (by decide)
      have D6 : (d.setIfInBounds 2 true).getD 6 false = d.getD 6 false := getD_set_ne false (by decide)
      have D7 : (d.setIfInBounds 2 true).getD 7 false = d.getD 7 false := getD_set_ne false (by decide)
      have D8 : (d.setIfInBounds 2 true).getD 8 false = d.getD 8 false := getD_set_ne false (by decide)
      have D9 : (d.setIfInBounds 2 true).getD 9 false = d.getD 9 false := getD_set_ne false (by decide)
      have D10 : (d.setIfInBounds 2 true).getD 10 false = d.getD 10 false := getD_set_ne false (by decide)
      have D11 : (d.setIfInBounds 2 true).getD 11 false = d.getD 11 false := getD_set_ne false (by decide)
      have D12 : (d.setIfInBounds 2 true).getD 12 false = d.getD 12 false := getD_set_ne false (by decide)
      have U0 : updO us 35 (.int .i64 ((ps.length : Nat) : Int)) 0 = us 0 := upd_otherO (by decide)
      have U1 : updO us 35 (.int .i64 ((ps.length : Nat) : Int)) 1 = us 1 := upd_otherO (by decide)
      have U5 : updO us 35 (.int .i64 ((ps.length : Nat) : Int)) 5 = us 5 := upd_otherO (by decide)
      have U4 : updO us 35 (.int .i64 ((ps.length : Nat) : Int)) 4 = us 4 := upd_otherO (by decide)
      have U33 : updO us 35 (.int .i64 ((ps.length : Nat) : Int)) 33 = us 33 := upd_otherO (by decide)
      have U34 : updO us 35 (.int .i64 ((ps.length : Nat) : Int)) 34 = us 34 := upd_otherO (by decide)
      have U35 : updO us 35 (.int .i64 ((ps.length : Nat) : Int)) 35 = (.int .i64 ((ps.length : Nat) : Int)) := upd_sameO _ _ _
      have U36 : updO us 35 (.int .i64 ((ps.length : Nat) : Int)) 36 = us 36 := upd_otherO (by decide)
      have U37 : updO us 35 (.int .i64 ((ps.length : Nat) : Int)) 37 = us 37 := upd_otherO (by decide)
      have U38 : updO us 35 (.int .i64 ((ps.length : Nat) : Int)) 38 = us 38 := upd_otherO (by decide)
      have U39 : updO us 35 (.int .i64 ((ps.length : Nat) : Int)) 39 = us 39 := upd_otherO (by decide)
      have U40 : updO us 35 (.int .i64 ((ps.length : Nat) : Int)) 40 = us 40 := upd_otherO (by decide)
      have U41 : updO us 35 (.int .i64 ((ps.length : Nat) : Int)) 41 = us 41 := upd_otherO (by decide)
      have U42 : updO us 35 (.int .i64 ((ps.length : Nat) : Int)) 42 = us 42 := upd_otherO (by decide)
      have U43 : updO us 35 (.int .i64 ((ps.length : Nat) : Int)) 43 = us 43 := upd_otherO (by decide)
      have U44 : updO us 35 (.int .i64 ((ps.length : Nat) : Int)) 44 = us 44 := upd_otherO (by decide)
      refine wpOp_step rfl (fun K hK => ?_)
      simp only [frO, e0, e3, e6]
      go_simp
      refine hK _ _ ⟨updO us 35 (.int .i64 ((ps.length : Nat) : Int)), by simp [frO, updO, e0, e3, e6], { u0 := (U0.trans I.u0), u3 := (U1.trans I.u3), u6 := (U5.trans I.u6), bel := (I.bel), o1 := (cO U34 I.o1 D1), o2 := (fun _ => U35), o3 := (cO U36 I.o3 D3), o5 := (cO U38 I.o5 D5), o8 := (cO U41 I.o8 D8), o9 := (cO U42 I.o9 D9), o10 := (cO U43 I.o10 D10), o6 := (fun h0 h1 => by rw [U39]; exact I.o6 (D6.symm.trans h0) (D7.symm.trans h1)), r0 := (fun h0 h1 => by rw [U33]; exact I.r0 (D0.symm.trans h0) (D4.symm.trans h1)), r4 := (fun h0 h1 => by rw [U37]; exact I.r4 (D4.symm.trans h0) (D7.symm.trans h1)), r7 := (fun h0 h1 => by rw [U40]; exact I.r7 (D7.symm.trans h0) (D11.symm.trans h1)), r11 := (fun h0 => by rw [U44]; exact I.r11 (D11.symm.trans h0)), s0 := (fun h0 h1 h2 h3 => by rw [U33, U39]; exact I.s0 (D0.symm.trans h0) (D4.symm.trans h1) (D6.symm.trans h2) (D7.symm.trans h3)), s4 := (fun h0 h1 h2 => by rw [U37, U39]; exact I.s4 (D4.symm.trans h0) (D7.symm.trans h1) (D6.symm.trans h2)), o12 := (fun h => by rw [U4, U44, D11]; exact I.o12 (D12.symm.trans h)), i7 := (fun h => D4.trans (I.i7 (D7.symm.trans h))), i11 := (fun h => D7.trans (I.i11 (D11.symm.trans h))) }⟩
     ·
      skip
      have D0 : (d.setIfInBounds 3 true).getD 0 false = d.getD 0 false := getD_set_ne false (by decide)
      have D1 : (d.setIfInBounds 3 true).getD 1 false = d.getD 1 false := getD_set_ne false (by decide)
      have D2 : (d.setIfInBounds 3 true).getD 2 false = d.getD 2 false := getD_set_ne false (by decide)
      have D3 : (d.setIfInBounds 3 true).getD 3 false = true := getD_set_sameO hun
      have D4 : (d.setIfInBounds 3 true).getD 4 false = d.getD 4 false := getD_set_ne false (by decide)
      have D5 : (d.setIfInBounds 3 true).getD 5 false = d.getD 5 false := getD_set_ne false (by decide)
      have D6 : (d.setIfInBounds 3 true).getD 6 false = d.getD 6 false := getD_set_ne false (by decide)
      have D7 : (d.setIfInBounds 3 true).getD 7 false = d.getD 7 false := getD_set_ne false (by decide)
      have D8 : (d.setIfInBounds 3 true).getD 8 false = d.getD 8 false := getD_set_ne false (by decide)
      have D9 : (d.setIfInBounds 3 true).getD 9 false = d.getD 9 false := getD_set_ne false (by decide)
      have D10 : (d.setIfInBounds 3 true).getD 10 false = d.getD 10 false := getD_set_ne false (by decide)
      have D11 : (d.setIfInBounds 3 true).getD 11 false = d.getD 11 false := getD_set_ne false (by decide)
      have D12 : (d.setIfInBounds 3 true).getD 12 false = d.getD 12 false := getD_set_ne false (by decide)
      have e33 := I.o1 (hall ⟨1, .data⟩ (by simp) rfl)
      have e34 := I.o2 (hall ⟨2, .data⟩ (by simp) rfl)
      have U0 : updO us 36 (.slice (some ⟨g, 0, none⟩) ps.length ps.length) 0 = us 0 := upd_otherO (by decide)
      have U1 : updO us 36 (.slice (some ⟨g, 0, none⟩) ps.length ps.length) 1 = us 1 := upd_otherO (by decide)
      have U5 : updO us 36 (.slice (some ⟨g, 0, none⟩) ps.length ps.length) 5 = us 5 := upd_otherO (by decide)
      have U4 : updO us 36 (.slice (some ⟨g, 0, none⟩) ps.length ps.length) 4 = us 4 := upd_otherO (by decide)
      have U33 : updO us 36 (.slice (some ⟨g, 0, none⟩) ps.length ps.length) 33 = us 33 := upd_otherO (by decide)
      have U34 : updO us 36 (.slice (some ⟨g, 0, none⟩) ps.length ps.length) 34 = us 34 := upd_otherO (by decide)
      have U35 : updO us 36 (.slice (some ⟨g, 0, none⟩) ps.length ps.length) 35 = us 35 := upd_otherO (by decide)
      have U36 : updO us 36 (.slice (some ⟨g, 0, none⟩) ps.length ps.length) 36 = (.slice (some ⟨g, 0, none⟩) ps.length ps.length) := upd_sameO _ _ _
      have U37 : updO us 36 (.slice (some ⟨g, 0, none⟩) ps.length ps.length) 37 = us 37 := upd_otherO (by decide)
      have U38 : updO us 36 (.slice (some ⟨g, 0, none⟩) ps.length ps.length) 38 = us 38 := upd_otherO (by decide)
      have U39 : updO us 36 (.slice (some ⟨g, 0, none⟩) ps.length ps.length) 39 = us 39 := upd_otherO (by decide)
      have U40 : updO us 36 (.slice (some ⟨g, 0, none⟩) ps.length ps.length) 40 = us 40 := upd_otherO (by decide)
      have U41 : updO us 36 (.slice (some ⟨g, 0, none⟩) ps.length ps.length) 41 = us 41 := upd_otherO (by decide)
      have U42 : updO us 36 (.slice (some ⟨g, 0, none⟩) ps.length ps.length) 42 = us 42 := upd_otherO (by decide)
      have U43 : updO us 36 (.slice (some ⟨g, 0, none⟩) ps.length ps.length) 43 = us 43 := upd_otherO (by decide)
      have U44 : updO us 36 (.slice (some ⟨g, 0, none⟩) ps.length ps.length) 44 = us 44 := upd_otherO (by decide)
      refine wpOp_step rfl (fun K hK => ?_)
      simp only [frO, e0, e3, e6, e33, e34]
      go_simp
      try (rw [if_pos (by omega)]; go_simp)
      refine hK _ _ ⟨updO us 36 (.slice (some ⟨g, 0, none⟩) ps.length ps.length), by simp [frO, updO, e0, e3, e6, e33, e34], { u0 := (U0.trans I.u0), u3 := (U1.trans I.u3), u6 := (U5.trans I.u6), bel := (I.bel), o1 := (cO U34 I.o1 D1), o2 := (cO U35 I.o2 D2), o3 := (fun _ => U36), o5 := (cO U38 I.o5 D5), o8 := (cO U41 I.o8 D8), o9 := (cO U42 I.o9 D9), o10 := (cO U43 I.o10 D10), o6 := (fun h0 h1 => by rw [U39]; exact I.o6 (D6.symm.trans h0) (D7.symm.trans h1)), r0 := (fun h0 h1 => by rw [U33]; exact I.r0 (D0.symm.trans h0) (D4.symm.trans h1)), r4 := (fun h0 h1 => by rw [U37]; exact I.r4 (D4.symm.trans h0) (D7.symm.trans h1)), r7 := (fun h0 h1 => by rw [U40]; exact I.r7 (D7.symm.trans h0) (D11.symm.trans h1)), r11 := (fun h0 => by rw [U44]; exact I.r11 (D11.symm.trans h0)), s0 := (fun h0 h1 h2 h3 => by rw [U33, U39]; exact I.s0 (D0.symm.trans h0) (D4.symm.trans h1) (D6.symm.trans h2) (D7.symm.trans h3)), s4 := (fun h0 h1 h2 => by rw [U37, U39]; exact I.s4 (D4.symm.trans h0) (D7.symm.trans h1) (D6.symm.trans h2)), o12 := (fun h => by rw [U4, U44, D11]; exact I.o12 (D12.symm.trans h)), i7 := (fun h => D4.trans (I.i7 (D7.symm.trans h))), i11 := (fun h => D7.trans (I.i11 (D11.symm.trans h))) }⟩
     ·
      skip
      have D0 : (d.setIfInBounds 4 true).getD 0 false = d.getD 0 false := getD_set_ne false (by decide)
      have D1 : (d.setIfInBounds 4 true).getD 1 false = d.getD 1 false := getD_set_ne false (by decide)
      have D2 : (d.setIfInBounds 4 true).getD 2 false = d.getD 2 false := getD_set_ne false (by decide)
      have D3 : (d.setIfInBounds 4 true).getD 3 false = d.getD 3 false := getD_set_ne false (by decide)
      have D4 : (d.setIfInBounds 4 true).getD 4 false = true := getD_set_sameO hun
      have D5 : (d.setIfInBounds 4 true).getD 5 false = d.getD 5 false := getD_set_ne false (by decide)
      have D6 : (d.setIfInBounds 4 true).getD 6 false = d.getD 6 false := getD_set_ne false (by decide)
      have D7 : (d.setIfInBounds 4 true).getD 7 false = d.getD 7 false := getD_set_ne false (by decide)
      have D8 : (d.setIfInBounds 4 true).getD 8 false = d.getD 8 false := getD_set_ne false (by decide)
      have D9 : (d.setIfInBounds 4 true).getD 9 false = d.getD 9 false := getD_set_ne false (by decide)
      have D10 : (d.setIfInBounds 4 true).getD 10 false = d.getD 10 false := getD_set_ne false (by decide)
      have D11 : (d.setIfInBounds 4 true).getD 11 false = d.getD 11 false := getD_set_ne false (by decide)
      have D12 : (d.setIfInBounds 4 true).getD 12 false = d.getD 12 false := getD_set_ne false (by decide)
      have e35 := I.o3 (hall ⟨3, .data⟩ (by simp) rfl)
      have h00 := hall ⟨0, .data⟩ (by simp) rfl
      have hRow := I.r0 (hall ⟨0, .data⟩ (by simp) rfl) (getD_tfO hun)
      refine wpOp_append_ptyO rfl rfl (.tmp 33) (.tmp 36) rfl wq.heap.size (us 33) [] rfl hRow (some ⟨g, 0, none⟩) (ps.length) (ps) (by show us 36 = _; rw [e35] <;> simp [hl1]) (q1.below I.bel) (.inr ⟨_, _, rfl⟩) (by simp [hl1, hl3] <;> omega) hsz ?_
      intro v W2 hR2 hB hg hv
      have U0 : updO us 37 (v) 0 = us 0 := upd_otherO (by decide)
      have U1 : updO us 37 (v) 1 = us 1 := upd_otherO (by decide)
      have U5 : updO us 37 (v) 5 = us 5 := upd_otherO (by decide)
      have U4 : updO us 37 (v) 4 = us 4 := upd_otherO (by decide)
      have U33 : updO us 37 (v) 33 = us 33 := upd_otherO (by decide)
      have U34 : updO us 37 (v) 34 = us 34 := upd_otherO (by decide)
      have U35 : updO us 37 (v) 35 = us 35 := upd_otherO (by decide)
      have U36 : updO us 37 (v) 36 = us 36 := upd_otherO (by decide)
      have U37 : updO us 37 (v) 37 = (v) := upd_sameO _ _ _
      have U38 : updO us 37 (v) 38 = us 38 := upd_otherO (by decide)
      have U39 : updO us 37 (v) 39 = us 39 := upd_otherO (by decide)
      have U40 : updO us 37 (v) 40 = us 40 := upd_otherO (by decide)
      have U41 : updO us 37 (v) 41 = us 41 := upd_otherO (by decide)
      have U42 : updO us 37 (v) 42 = us 42 := upd_otherO (by decide)
      have U43 : updO us 37 (v) 43 = us 43 := upd_otherO (by decide)
      have U44 : updO us 37 (v) 44 = us 44 := upd_otherO (by decide)
      refine ⟨updO us 37 v, by simp [frO, updO, Act.put], { u0 := (U0.trans I.u0), u3 := (U1.trans I.u3), u6 := (U5.trans I.u6), bel := (I.bel.trans hB), o1 := (cO U34 I.o1 D1), o2 := (cO U35 I.o2 D2), o3 := (cO U36 I.o3 D3), o5 := (cO U38 I.o5 D5), o8 := (cO U41 I.o8 D8), o9 := (cO U42 I.o9 D9), o10 := (cO U43 I.o10 D10), o6 := (fun h0 h1 => by rw [U39]; exact (I.o6 (D6.symm.trans h0) (D7.symm.trans h1)).sep (I.s0 h00 (getD_tfO hun) (D6.symm.trans h0) (D7.symm.trans h1)) hg), r0 := (fun h0 h1 => by rw [D4] at h1; cases h1), r4 := (fun _ _ => by rw [U37]; simpa using hR2), r7 := (fun h0 h1 => absurd (I.i7 (D7.symm.trans h0)) (by rw [getD_tfO hun]; exact Bool.false_ne_true)), r11 := (fun h0 => absurd (I.i7 (I.i11 (D11.symm.trans h0))) (by rw [getD_tfO hun]; exact Bool.false_ne_true)), s0 := (fun h0 h1 h2 h3 => by rw [D4] at h1; cases h1), s4 := (fun h0 h1 h2 => by rw [U37, U39]; exact sep_appO (I.o6 (D6.symm.trans h2) (D7.symm.trans h1)) (I.s0 h00 (getD_tfO hun) (D6.symm.trans h2) (D7.symm.trans h1)) hv), o12 := (fun h => by rw [U4, U44, D11]; exact I.o12 (D12.symm.trans h)), i7 := (fun _ => D4), i11 := (fun h => D7.trans (I.i11 (D11.symm.trans h))) }⟩
     ·
      skip
      have D0 : (d.setIfInBounds 5 true).getD 0 false = d.getD 0 false := getD_set_ne false (by decide)
      have D1 : (d.setIfInBounds 5 true).getD 1 false = d.getD 1 false := getD_set_ne false (by decide)
      have D2 : (d.setIfInBounds 5 true).getD 2 false = d.getD 2 false := getD_set_ne false (by decide)
      have D3 : (d.setIfInBounds 5 true).getD 3 false = d.getD 3 false := getD_set_ne false (by decide)
      have D4 : (d.setIfInBounds 5 true).getD 4 false = d.getD 4 false := getD_set_ne false (by decide)
      have D5 : (d.setIfInBounds 5 true).getD 5 false = true := getD_set_sameO hun
      have D6 : (d.setIfInBounds 5 true).getD 6 false = d.getD 6 false := getD_set_ne false (by decide)
      have D7 : (d.setIfInBounds 5 true).getD 7 false = d.getD 7 false := getD_set_ne false (by decide)
      have D8 : (d.setIfInBounds 5 true).getD 8 false = d.getD 8 false := getD_set_ne false (by decide)
      have D9 : (d.setIfInBounds 5 true).getD 9 false = d.getD 9 false := getD_set_ne false (by decide)
      have D10 : (d.setIfInBounds 5 true).getD 10 false = d.getD 10 false := getD_set_ne false (by decide)
      have D11 : (d.setIfInBounds 5 true).getD 11 false = d.getD 11 false := getD_set_ne false (by decide)
      have D12 : (d.setIfInBounds 5 true).getD 12 false = d.getD 12 false := getD_set_ne false (by decide)
      have U0 : updO us 38 (.string ⟨x.toArray⟩) 0 = us 0 := upd_otherO (by decide)
      have U1 : updO us 38 (.string ⟨x.toArray⟩) 1 = us 1 := upd_otherO (by decide)
      have U5 : updO us 38 (.string ⟨x.toArray⟩) 5 = us 5 := upd_otherO (by decide)
      have U4 : updO us 38 (.string ⟨x.toArray⟩) 4 = us 4 := upd_otherO (by decide)
      have U33 : updO us 38 (.string ⟨x.toArray⟩) 33 = us 33 := upd_otherO (by decide)
      have U34 : updO us 38 (.string ⟨x.toArray⟩) 34 = us 34 := upd_otherO (by decide)
      have U35 : updO us 38 (.string ⟨x.toArray⟩) 35 = us 35 := upd_otherO (by decide)
      have U36 : updO us 38 (.string ⟨x.toArray⟩) 36 = us 36 := upd_otherO (by decide)
      have U37 : updO us 38 (.string ⟨x.toArray⟩) 37 = us 37 := upd_otherO (by decide)
      have U38 : updO us 38 (.string ⟨x.toArray⟩) 38 = (.string ⟨x.toArray⟩) := upd_sameO _ _ _
      have U39 : updO us 38 (.string ⟨x.toArray⟩) 39 = us 39 := upd_otherO (by decide)
      have U40 : updO us 38 (.string ⟨x.toArray⟩) 40 = us 40 := upd_otherO (by decide)
      have U41 : updO us 38 (.string ⟨x.toArray⟩) 41 = us 41 := upd_otherO (by decide)
      have U42 : updO us 38 (.string ⟨x.toArray⟩) 42 = us 42 := upd_otherO (by decide)
      have U43 : updO us 38 (.string ⟨x.toArray⟩) 43 = us 43 := upd_otherO (by decide)
      have U44 : updO us 38 (.string ⟨x.toArray⟩) 44 = us 44 := upd_otherO (by decide)
      refine wpOp_step rfl (fun K hK => ?_)
      simp only [frO, e0, e3, e6]
      go_simp
      refine hK _ _ ⟨updO us 38 (.string ⟨x.toArray⟩), by simp [frO, updO, e0, e3, e6], { u0 := (U0.trans I.u0), u3 := (U1.trans I.u3), u6 := (U5.trans I.u6), bel := (I.bel), o1 := (cO U34 I.o1 D1), o2 := (cO U35 I.o2 D2), o3 := (cO U36 I.o3 D3), o5 := (fun _ => U38), o8 := (cO U41 I.o8 D8), o9 := (cO U42 I.o9 D9), o10 := (cO U43 I.o10 D10), o6 := (fun h0 h1 => by rw [U39]; exact I.o6 (D6.symm.trans h0) (D7.symm.trans h1)), r0 := (fun h0 h1 => by rw [U33]; exact I.r0 (D0.symm.trans h0) (D4.symm.trans h1)), r4 := (fun h0 h1 => by rw [U37]; exact I.r4 (D4.symm.trans h0) (D7.symm.trans h1)), r7 := (fun h0 h1 => by rw [U40]; exact I.r7 (D7.symm.trans h0) (D11.symm.trans h1)), r11 := (fun h0 => by rw [U44]; exact I.r11 (D11.symm.trans h0)), s0 := (fun h0 h1 h2 h3 => by rw [U33, U39]; exact I.s0 (D0.symm.trans h0) (D4.symm.trans h1) (D6.symm.trans h2) (D7.symm.trans h3)), s4 := (fun h0 h1 h2 => by rw [U37, U39]; exact I.s4 (D4.symm.trans h0) (D7.symm.trans h1) (D6.symm.trans h2)), o12 := (fun h => by rw [U4, U44, D11]; exact I.o12 (D12.symm.trans h)), i7 := (fun h => D4.trans (I.i7 (D7.symm.trans h))), i11 := (fun h => D7.trans (I.i11 (D11.symm.trans h))) }⟩
     ·
      skip
      have D0 : (d.setIfInBounds 6 true).getD 0 false = d.getD 0 false := getD_set_ne false (by decide)
      have D1 : (d.setIfInBounds 6 true).getD 1 false = d.getD 1 false := getD_set_ne false (by decide)
      have D2 : (d.setIfInBounds 6 true).getD 2 false = d.getD 2 false := getD_set_ne false (by decide)
      have D3 : (d.setIfInBounds 6 true).getD 3 false = d.getD 3 false := getD_set_ne false (by decide)
      have D4 : (d.setIfInBounds 6 true).getD 4 false = d.getD 4 false := getD_set_ne false (by decide)
      have D5 : (d.setIfInBounds 6 true).getD 5 false = d.getD 5 false := getD_set_ne false (by decide)
      have D6 : (d.setIfInBounds 6 true).getD 6 false = true := getD_set_sameO hun
      have D7 : (d.setIfInBounds 6 true).getD 7 false = d.getD 7 false := getD_set_ne false (by decide)
      have D8 : (d.setIfInBounds 6 true).getD 8 false = d.getD 8 false := getD_set_ne false (by decide)
      have D9 : (d.setIfInBounds 6 true).getD 9 false = d.getD 9 false := getD_set_ne false (by decide)
      have D10 : (d.setIfInBounds 6 true).getD 10 false = d.getD 10 false := getD_set_ne false (by decide)
      have D11 : (d.setIfInBounds 6 true).getD 11 false = d.getD 11 false := getD_set_ne false (by decide)
      have D12 : (d.setIfInBounds 6 true).getD 12 false = d.getD 12 false := getD_set_ne false (by decide)
      have e37 := I.o5 (hall ⟨5, .data⟩ (by simp) rfl)
      have U0 : updO us 39 (.slice (some ⟨W.heap.size, 0, none⟩) 1 1) 0 = us 0 := upd_otherO (by decide)
      have U1 : updO us 39 (.slice (some ⟨W.heap.size, 0, none⟩) 1 1) 1 = us 1 := upd_otherO (by decide)
      have U5 : updO us 39 (.slice (some ⟨W.heap.size, 0, none⟩) 1 1) 5 = us 5 := upd_otherO (by decide)
      have U4 : updO us 39 (.slice (some ⟨W.heap.size, 0, none⟩) 1 1) 4 = us 4 := upd_otherO (by decide)
      have U33 : updO us 39 (.slice (some ⟨W.heap.size, 0, none⟩) 1 1) 33 = us 33 := upd_otherO (by decide)
      have U34 : updO us 39 (.slice (some ⟨W.heap.size, 0, none⟩) 1 1) 34 = us 34 := upd_otherO (by decide)
      have U35 : updO us 39 (.slice (some ⟨W.heap.size, 0, none⟩) 1 1) 35 = us 35 := upd_otherO (by decide)
      have U36 : updO us 39 (.slice (some ⟨W.heap.size, 0, none⟩) 1 1) 36 = us 36 := upd_otherO (by decide)
      have U37 : updO us 39 (.slice (some ⟨W.heap.size, 0, none⟩) 1 1) 37 = us 37 := upd_otherO (by decide)
      have U38 : updO us 39 (.slice (some ⟨W.heap.size, 0, none⟩) 1 1) 38 = us 38 := upd_otherO (by decide)
      have U39 : updO us 39 (.slice (some ⟨W.heap.size, 0, none⟩) 1 1) 39 = (.slice (some ⟨W.heap.size, 0, none⟩) 1 1) := upd_sameO _ _ _
      have U40 : updO us 39 (.slice (some ⟨W.heap.size, 0, none⟩) 1 1) 40 = us 40 := upd_otherO (by decide)
      have U41 : updO us 39 (.slice (some ⟨W.heap.size, 0, none⟩) 1 1) 41 = us 41 := upd_otherO (by decide)
      have U42 : updO us 39 (.slice (some ⟨W.heap.size, 0, none⟩) 1 1) 42 = us 42 := upd_otherO (by decide)
      have U43 : updO us 39 (.slice (some ⟨W.heap.size, 0, none⟩) 1 1) 43 = us 43 := upd_otherO (by decide)
      have U44 : updO us 39 (.slice (some ⟨W.heap.size, 0, none⟩) 1 1) 44 = us 44 := upd_otherO (by decide)
      refine wpOp_step rfl (fun K hK => ?_)
      simp only [frO, e0, e3, e6, e37]
      go_simp
      refine hK _ _ ⟨updO us 39 (.slice (some ⟨W.heap.size, 0, none⟩) 1 1), by simp [frO, updO, e0, e3, e6, e37], { u0 := (U0.trans I.u0), u3 := (U1.trans I.u3), u6 := (U5.trans I.u6), bel := (I.bel.alloc hsz _), o1 := (cO U34 I.o1 D1), o2 := (cO U35 I.o2 D2), o3 := (cO U36 I.o3 D3), o5 := (cO U38 I.o5 D5), o8 := (cO U41 I.o8 D8), o9 := (cO U42 I.o9 D9), o10 := (cO U43 I.o10 D10), o6 := (fun _ _ => by rw [U39]; exact ⟨_, rfl, heap_alloc_new W _, hsz⟩), r0 := (fun h0 h1 => by rw [U33]; exact (I.r0 (D0.symm.trans h0) (D4.symm.trans h1)).below (below_alloc _ _)), r4 := (fun h0 h1 => by rw [U37]; exact (I.r4 (D4.symm.trans h0) (D7.symm.trans h1)).below (below_alloc _ _)), r7 := (fun h0 h1 => by rw [U40]; exact (I.r7 (D7.symm.trans h0) (D11.symm.trans h1)).below (below_alloc _ _)), r11 := (fun h0 => by rw [U44]; exact (I.r11 (D11.symm.trans h0)).below (below_alloc _ _)), s0 := (fun h0 h1 h2 h3 => by rw [U33, U39]; exact sep_ltO fun k hk => (I.r0 (D0.symm.trans h0) (D4.symm.trans h1)).lt hk), s4 := (fun h0 h1 h2 => by rw [U37, U39]; exact sep_ltO fun k hk => (I.r4 (D4.symm.trans h0) (D7.symm.trans h1)).lt hk), o12 := (fun h => by rw [U4, U44, D11]; exact I.o12 (D12.symm.trans h)), i7 := (fun h => D4.trans (I.i7 (D7.symm.trans h))), i11 := (fun h => D7.trans (I.i11 (D11.symm.trans h))) }⟩
     ·
      skip
      have D0 : (d.setIfInBounds 7 true).getD 0 false = d.getD 0 false := getD_set_ne false (by decide)
      have D1 : (d.setIfInBounds 7 true).getD 1 false = d.getD 1 false := getD_set_ne false (by decide)
      have D2 : (d.setIfInBounds 7 true).getD 2 false = d.getD 2 false := getD_set_ne false (by decide)
      have D3 : (d.setIfInBounds 7 true).getD 3 false = d.getD 3 false := getD_set_ne false (by decide)
      have D4 : (d.setIfInBounds 7 true).getD 4 false = d.getD 4 false := getD_set_ne false (by decide)
      have D5 : (d.setIfInBounds 7 true).getD 5 false = d.getD 5 false := getD_set_ne false (by decide)
      have D6 : (d.setIfInBounds 7 true).getD 6 false = d.getD 6 false := getD_set_ne false (by decide)
      have D7 : (d.setIfInBounds 7 true).getD 7 false = true := getD_set_sameO hun
      have D8 : (d.setIfInBounds 7 true).getD 8 false = d.getD 8 false := getD_set_ne false (by decide)
      have D9 : (d.setIfInBounds 7 true).getD 9 false = d.getD 9 false := getD_set_ne false (by decide)
      have D10 : (d.setIfInBounds 7 true).getD 10 false = d.getD 10 false := getD_set_ne false (by decide)
      have D11 : (d.setIfInBounds 7 true).getD 11 false = d.getD 11 false := getD_set_ne false (by decide)
      have D12 : (d.setIfInBounds 7 true).getD 12 false = d.getD 12 false := getD_set_ne false (by decide)
      have h44 := hall ⟨4, .data⟩ (by simp) rfl
      obtain ⟨B, e38, hRB⟩ := (I.o6 (hall ⟨6, .data⟩ (by simp) rfl) (getD_tfO hun)).row
      have hRow := I.r4 (hall ⟨4, .data⟩ (by simp) rfl) (getD_tfO hun)
      refine wpOp_append_ptyO rfl rfl (.tmp 37) (.tmp 39) rfl wq.heap.size (us 37) (ps) rfl hRow (some ⟨B, 0, none⟩) 1 [x] e38 hRB (.inr ⟨_, _, rfl⟩) (by simp [hl1, hl3] <;> omega) hsz ?_
      intro v W2 hR2 hB hg hv
      have U0 : updO us 40 (v) 0 = us 0 := upd_otherO (by decide)
      have U1 : updO us 40 (v) 1 = us 1 := upd_otherO (by decide)
      have U5 : updO us 40 (v) 5 = us 5 := upd_otherO (by decide)
      have U4 : updO us 40 (v) 4 = us 4 := upd_otherO (by decide)
      have U33 : updO us 40 (v) 33 = us 33 := upd_otherO (by decide)
      have U34 : updO us 40 (v) 34 = us 34 := upd_otherO (by decide)
      have U35 : updO us 40 (v) 35 = us 35 := upd_otherO (by decide)
      have U36 : updO us 40 (v) 36 = us 36 := upd_otherO (by decide)
      have U37 : updO us 40 (v) 37 = us 37 := upd_otherO (by decide)
      have U38 : updO us 40 (v) 38 = us 38 := upd_otherO (by decide)
      have U39 : updO us 40 (v) 39 = us 39 := upd_otherO (by decide)
      have U40 : updO us 40 (v) 40 = (v) := upd_sameO _ _ _
      have U41 : updO us 40 (v) 41 = us 41 := upd_otherO (by decide)
      have U42 : updO us 40 (v) 42 = us 42 := upd_otherO (by decide)
      have U43 : updO us 40 (v) 43 = us 43 := upd_otherO (by decide)
      have U44 : updO us 40 (v) 44 = us 44 := upd_otherO (by decide)
      refine ⟨updO us 40 v, by simp [frO, updO, Act.put], { u0 := (U0.trans I.u0), u3 := (U1.trans I.u3), u6 := (U5.trans I.u6), bel := (I.bel.trans hB), o1 := (cO U34 I.o1 D1), o2 := (cO U35 I.o2 D2), o3 := (cO U36 I.o3 D3), o5 := (cO U38 I.o5 D5), o8 := (cO U41 I.o8 D8), o9 := (cO U42 I.o9 D9), o10 := (cO U43 I.o10 D10), o6 := (fun h0 h1 => by rw [D7] at h1; cases h1), r0 := (fun h0 h1 => absurd h44 (by rw [D4.symm.trans h1]; exact Bool.false_ne_true)), r4 := (fun h0 h1 => by rw [D7] at h1; cases h1), r7 := (fun _ _ => by rw [U40]; exact hR2), r11 := (fun h0 => absurd (I.i11 (D11.symm.trans h0)) (by rw [getD_tfO hun]; exact Bool.false_ne_true)), s0 := (fun h0 h1 h2 h3 => by rw [D7] at h3; cases h3), s4 := (fun h0 h1 h2 => by rw [D7] at h1; cases h1), o12 := (fun h => by rw [U4, U44, D11]; exact I.o12 (D12.symm.trans h)), i7 := (fun _ => D4.trans h44), i11 := (fun _ => D7) }⟩
     ·
      skip
      have D0 : (d.setIfInBounds 8 true).getD 0 false = d.getD 0 false := getD_set_ne false (by decide)
      have D1 : (d.setIfInBounds 8 true).getD 1 false = d.getD 1 false := getD_set_ne false (by decide)
      have D2 : (d.setIfInBounds 8 true).getD 2 false = d.getD 2 false := getD_set_ne false (by decide)
      have D3 : (d.setIfInBounds 8 true).getD 3 false = d.getD 3 false := getD_set_ne false (by decide)
      have D4 : (d.setIfInBounds 8 true).getD 4 false = d.getD 4 false := getD_set_ne false (by decide)
      have D5 : (d.setIfInBounds 8 true).getD 5 false = d.getD 5 false := getD_set_ne false (by decide)
      have D6 : (d.setIfInBounds 8 true).getD 6 false = d.getD 6 false := getD_set_ne false (by decide)
      have D7 : (d.setIfInBounds 8 true).getD 7 false = d.getD 7 false := getD_set_ne false (by decide)
      have D8 : (d.setIfInBounds 8 true).getD 8 false = true := getD_set_sameO hun
      have D9 : (d.setIfInBounds 8 true).getD 9 false = d.getD 9 false := getD_set_ne false (by decide)
      have D10 : (d.setIfInBounds 8 true).getD 10 false = d.getD 10 false := getD_set_ne false (by decide)
      have D11 : (d.setIfInBounds 8 true).getD 11 false = d.getD 11 false := getD_set_ne false (by decide)
      have D12 : (d.setIfInBounds 8 true).getD 12 false = d.getD 12 false := getD_set_ne false (by decide)
      have U0 : updO us 41 (.slice (some ⟨g, 0, none⟩) ps.length ps.length) 0 = us 0 := upd_otherO (by decide)
      have U1 : updO us 41 (.slice (some ⟨g, 0, none⟩) ps.length ps.length) 1 = us 1 := upd_otherO (by decide)
      have U5 : updO us 41 (.slice (some ⟨g, 0, none⟩) ps.length ps.length) 5 = us 5 := upd_otherO (by decide)
      have U4 : updO us 41 (.slice (some ⟨g, 0, none⟩) ps.length ps.length) 4 = us 4 := upd_otherO (by decide)
      have U33 : updO us 41 (.slice (some ⟨g, 0, none⟩) ps.length ps.length) 33 = us 33 := upd_otherO (by decide)
      have U34 : updO us 41 (.slice (some ⟨g, 0, none⟩) ps.length ps.length) 34 = us 34 := upd_otherO (by decide)
      have U35 : updO us 41 (.slice (some ⟨g, 0, none⟩) ps.length ps.length) 35 = us 35 := upd_otherO (by decide)
      have U36 : updO us 41 (.slice (some ⟨g, 0, none⟩) ps.length ps.length) 36 = us 36 := upd_otherO (by decide)
      have U37 : updO us 41 (.slice (some ⟨g, 0, none⟩) ps.length ps.length) 37 = us 37 := upd_otherO (by decide)
      have U38 : updO us 41 (.slice (some ⟨g, 0, none⟩) ps.length ps.length) 38 = us 38 := upd_otherO (by decide)
      have U39 : updO us 41 (.slice (some ⟨g, 0, none⟩) ps.length ps.length) 39 = us 39 := upd_otherO (by decide)
      have U40 : updO us 41 (.slice (some ⟨g, 0, none⟩) ps.length ps.length) 40 = us 40 := upd_otherO (by decide)
      have U41 : updO us 41 (.slice (some ⟨g, 0, none⟩) ps.length ps.length) 41 = (.slice (some ⟨g, 0, none⟩) ps.length ps.length) := upd_sameO _ _ _
      have U42 : updO us 41 (.slice (some ⟨g, 0, none⟩) ps.length ps.length) 42 = us 42 := upd_otherO (by decide)
      have U43 : updO us 41 (.slice (some ⟨g, 0, none⟩) ps.length ps.length) 43 = us 43 := upd_otherO (by decide)
      have U44 : updO us 41 (.slice (some ⟨g, 0, none⟩) ps.length ps.length) 44 = us 44 := upd_otherO (by decide)
      refine wpOp_step rfl (fun K hK => ?_)
      simp only [frO, e0, e3, e6]
      go_simp
      refine hK _ _ ⟨updO us 41 (.slice (some ⟨g, 0, none⟩) ps.length ps.length), by simp [frO, updO, e0, e3, e6], { u0 := (U0.trans I.u0), u3 := (U1.trans I.u3), u6 := (U5.trans I.u6), bel := (I.bel), o1 := (cO U34 I.o1 D1), o2 := (cO U35 I.o2 D2), o3 := (cO U36 I.o3 D3), o5 := (cO U38 I.o5 D5), o8 := (fun _ => U41), o9 := (cO U42 I.o9 D9), o10 := (cO U43 I.o10 D10), o6 := (fun h0 h1 => by rw [U39]; exact I.o6 (D6.symm.trans h0) (D7.symm.trans h1)), r0 := (fun h0 h1 => by rw [U33]; exact I.r0 (D0.symm.trans h0) (D4.symm.trans h1)), r4 := (fun h0 h1 => by rw [U37]; exact I.r4 (D4.symm.trans h0) (D7.symm.trans h1)), r7 := (fun h0 h1 => by rw [U40]; exact I.r7 (D7.symm.trans h0) (D11.symm.trans h1)), r11 := (fun h0 => by rw [U44]; exact I.r11 (D11.symm.trans h0)), s0 := (fun h0 h1 h2 h3 => by rw [U33, U39]; exact I.s0 (D0.symm.trans h0) (D4.symm.trans h1) (D6.symm.trans h2) (D7.symm.trans h3)), s4 := (fun h0 h1 h2 => by rw [U37, U39]; exact I.s4 (D4.symm.trans h0) (D7.symm.trans h1) (D6.symm.trans h2)), o12 := (fun h => by rw [U4, U44, D11]; exact I.o12 (D12.symm.trans h)), i7 := (fun h => D4.trans (I.i7 (D7.symm.trans h))), i11 := (fun h => D7.trans (I.i11 (D11.symm.trans h))) }⟩
     ·
      skip
      have D0 : (d.setIfInBounds 9 true).getD 0 false = d.getD 0 false := getD_set_ne false (by decide)
      have D1 : (d.setIfInBounds 9 true).getD 1 false = d.getD 1 false := getD_set_ne false (by decide)
      have D2 : (d.setIfInBounds 9 true).getD 2 false = d.getD 2 false := getD_set_ne false (by decide)
      have D3 : (d.setIfInBounds 9 true).getD 3 false = d.getD 3 false := getD_set_ne false (by decide)
      have D4 : (d.setIfInBounds 9 true).getD 4 false = d.getD 4 false := getD_set_ne false (by decide)
      have D5 : (d.setIfInBounds 9 true).getD 5 false = d.getD 5 false := getD_set_ne false (by decide)
      have D6 : (d.setIfInBounds 9 true).getD 6 false = d.getD 6 false := getD_set_ne false (by decide)
      have D7 : (d.setIfInBounds 9 true).getD 7 false = d.getD 7 false := getD_set_ne false (by decide)
      have D8 : (d.setIfInBounds 9 true).getD 8 false = d.getD 8 false := getD_set_ne false (by decide)
      have D9 : (d.setIfInBounds 9 true).getD 9 false = true := getD_set_sameO hun
      have D10 : (d.setIfInBounds 9 true).getD 10 false = d.getD 10 false := getD_set_ne false (by decide)
      have D11 : (d.setIfInBounds 9 true).getD 11 false = d.getD 11 false := getD_set_ne false (by decide)
      have D12 : (d.setIfInBounds 9 true).getD 12 false = d.getD 12 false := getD_set_ne false (by decide)
      have U0 : updO us 42 (.int .i64 ((ps.length : Nat) : Int)) 0 = us 0 := upd_otherO (by decide)
      have U1 : updO us 42 (.int .i64 ((ps.length : Nat) : Int)) 1 = us 1 := upd_otherO (by decide)
      have U5 : updO us 42 (.int .i64 ((ps.length : Nat) : Int)) 5 = us 5 := upd_otherO (by decide)
      have U4 : updO us 42 (.int .i64 ((ps.length : Nat) : Int)) 4 = us 4 := upd_otherO (by decide)
      have U33 : updO us 42 (.int .i64 ((ps.length : Nat) : Int)) 33 = us 33 := upd_otherO (by decide)
      have U34 : updO us 42 (.int .i64 ((ps.length : Nat) : Int)) 34 = us 34 := upd_otherO (by decide)
      have U35 : updO us 42 (.int .i64 ((ps.length : Nat) : Int)) 35 = us 35 := upd_otherO (by decide)
      have U36 : updO us 42 (.int .i64 ((ps.length : Nat) : Int)) 36 = us 36 := upd_otherO (by decide)
      have U37 : updO us 42 (.int .i64 ((ps.length : Nat) : Int)) 37 = us 37 := upd_otherO (by decide)
      have U38 : updO us 42 (.int .i64 ((ps.length : Nat) : Int)) 38 = us 38 := upd_otherO (by decide)
      have U39 : updO us 42 (.int .i64 ((ps.length : Nat) : Int)) 39 = us 39 := upd_otherO (by decide)
      have U40 : updO us 42 (.int .i64 ((ps.length : Nat) : Int)) 40 = us 40 := upd_otherO (by decide)
      have U41 : updO us 42 (.int .i64 ((ps.length : Nat) : Int)) 41 = us 41 := upd_otherO (by decide)
      have U42 : updO us 42 (.int .i64 ((ps.length : Nat) : Int)) 42 = (.int .i64 ((ps.length : Nat) : Int)) := upd_sameO _ _ _
      have U43 : updO us 42 (.int .i64 ((ps.length : Nat) : Int)) 43 = us 43 := upd_otherO (by decide)
      have U44 : updO us 42 (.int .i64 ((ps.length : Nat) : Int)) 44 = us 44 := upd_otherO (by decide)
      refine wpOp_step rfl (fun K hK => ?_)
      simp only [frO, e0, e3, e6]
      go_simp
      refine hK _ _ ⟨updO us 42 (.int .i64 ((ps.length : Nat) : Int)), by simp [frO, updO, e0, e3, e6], { u0 := (U0.trans I.u0), u3 := (U1.trans I.u3), u6 := (U5.trans I.u6), bel := (I.bel), o1 := (cO U34 I.o1 D1), o2 := (cO U35 I.o2 D2), o3 := (cO U36 I.o3 D3), o5 := (cO U38 I.o5 D5), o8 := (cO U41 I.o8 D8), o9 := (fun _ => U42), o10 := (cO U43 I.o10 D10), o6 := (fun h0 h1 => by rw [U39]; exact I.o6 (D6.symm.trans h0) (D7.symm.trans h1)), r0 := (fun h0 h1 => by rw [U33]; exact I.r0 (D0.symm.trans h0) (D4.symm.trans h1)), r4 := (fun h0 h1 => by rw [U37]; exact I.r4 (D4.symm.trans h0) (D7.symm.trans h1)), r7 := (fun h0 h1 => by rw [U40]; exact I.r7 (D7.symm.trans h0) (D11.symm.trans h1)), r11 := (fun h0 => by rw [U44]; exact I.r11 (D11.symm.trans h0)), s0 := (fun h0 h1 h2 h3 => by rw [U33, U39]; exact I.s0 (D0.symm.trans h0) (D4.symm.trans h1) (D6.symm.trans h2) (D7.symm.trans h3)), s4 := (fun h0 h1 h2 => by rw [U37, U39]; exact I.s4 (D4.symm.trans h0) (D7.symm.trans h1) (D6.symm.trans h2)), o12 := (fun h => by rw [U4, U44, D11]; exact I.o12 (D12.symm.trans h)), i7 := (fun h => D4.trans (I.i7 (D7.symm.trans h))), i11 := (fun h => D7.trans (I.i11 (D11.symm.trans h))) }⟩
     ·
      skip
      have D0 : (d.setIfInBounds 10 true).getD 0 false = d.getD 0 false := getD_set_ne false (by decide)
      have D1 : (d.setIfInBounds 10 true).getD 1 false = d.getD 1 false := getD_set_ne false (by decide)
      have D2 : (d.setIfInBounds 10 true).getD 2 false = d.getD 2 false := getD_set_ne false (by decide)
      have D3 : (d.setIfInBounds 10 true).getD 3 false = d.getD 3 false := getD_set_ne false (by decide)
      have D4 : (d.setIfInBounds 10 true).getD 4 false = d.getD 4 false := getD_set_ne false (by decide)
      have D5 : (d.setIfInBounds 10 true).getD 5 false = d.getD 5 false := getD_set_ne false (by decide)
      have D6 : (d.setIfInBounds 10 true).getD 6 false = d.getD 6 false := getD_set_ne false (by decide)
      have D7 : (d.setIfInBounds 10 true).getD 7 false = d.getD 7 false := getD_set_ne false (by decide)
      have D8 : (d.setIfInBounds 10 true).getD 8 false = d.getD 8 false := getD_set_ne false (by decide)
      have D9 : (d.setIfInBounds 10 true).getD 9 false = d.getD 9 false := getD_set_ne false (by decide)
      have D10 : (d.setIfInBounds 10 true).getD 10 false = true := getD_set_sameO hun
      have D11 : (d.setIfInBounds 10 true).getD 11 false = d.getD 11 false := getD_set_ne false (by decide)
      have D12 : (d.setIfInBounds 10 true).getD 12 false = d.getD 12 false := getD_set_ne false (by decide)
      have e40 := I.o8 (hall ⟨8, .data⟩ (by simp) rfl)
      have e41 := I.o9 (hall ⟨9, .data⟩ (by simp) rfl)
      have U0 : updO us 43 (.slice (some ⟨g, 0, none⟩) 0 0) 0 = us 0 := upd_otherO (by decide)
      have U1 : updO us 43 (.slice (some ⟨g, 0, none⟩) 0 0) 1 = us 1 := upd_otherO (by decide)
      have U5 : updO us 43 (.slice (some ⟨g, 0, none⟩) 0 0) 5 = us 5 := upd_otherO (by decide)
      have U4 : updO us 43 (.slice (some ⟨g, 0, none⟩) 0 0) 4 = us 4 := upd_otherO (by decide)
      have U33 : updO us 43 (.slice (some ⟨g, 0, none⟩) 0 0) 33 = us 33 := upd_otherO (by decide)
      have U34 : updO us 43 (.slice (some ⟨g, 0, none⟩) 0 0) 34 = us 34 := upd_otherO (by decide)
      have U35 : updO us 43 (.slice (some ⟨g, 0, none⟩) 0 0) 35 = us 35 := upd_otherO (by decide)
      have U36 : updO us 43 (.slice (some ⟨g, 0, none⟩) 0 0) 36 = us 36 := upd_otherO (by decide)
      have U37 : updO us 43 (.slice (some ⟨g, 0, none⟩) 0 0) 37 = us 37 := upd_otherO (by decide)
      have U38 : updO us 43 (.slice (some ⟨g, 0, none⟩) 0 0) 38 = us 38 := upd_otherO (by decide)
      have U39 : updO us 43 (.slice (some ⟨g, 0, none⟩) 0 0) 39 = us 39 := upd_otherO (by decide)
      have U40 : updO us 43 (.slice (some ⟨g, 0, none⟩) 0 0) 40 = us 40 := upd_otherO (by decide)
      have U41 : updO us 43 (.slice (some ⟨g, 0, none⟩) 0 0) 41 = us 41 := upd_otherO (by decide)
      have U42 : updO us 43 (.slice (some ⟨g, 0, none⟩) 0 0) 42 = us 42 := upd_otherO (by decide)
      have U43 : updO us 43 (.slice (some ⟨g, 0, none⟩) 0 0) 43 = (.slice (some ⟨g, 0, none⟩) 0 0) := upd_sameO _ _ _
      have U44 : updO us 43 (.slice (some ⟨g, 0, none⟩) 0 0) 44 = us 44 := upd_otherO (by decide)
      refine wpOp_step rfl (fun K hK => ?_)
      simp only [frO, e0, e3, e6, e40, e41]
      go_simp
      try (rw [if_pos (by omega)]; go_simp)
      refine hK _ _ ⟨updO us 43 (.slice (some ⟨g, 0, none⟩) 0 0), by simp [frO, updO, e0, e3, e6, e40, e41], { u0 := (U0.trans I.u0), u3 := (U1.trans I.u3), u6 := (U5.trans I.u6), bel := (I.bel), o1 := (cO U34 I.o1 D1), o2 := (cO U35 I.o2 D2), o3 := (cO U36 I.o3 D3), o5 := (cO U38 I.o5 D5), o8 := (cO U41 I.o8 D8), o9 := (cO U42 I.o9 D9), o10 := (fun _ => U43), o6 := (fun h0 h1 => by rw [U39]; exact I.o6 (D6.symm.trans h0) (D7.symm.trans h1)), r0 := (fun h0 h1 => by rw [U33]; exact I.r0 (D0.symm.trans h0) (D4.symm.trans h1)), r4 := (fun h0 h1 => by rw [U37]; exact I.r4 (D4.symm.trans h0) (D7.symm.trans h1)), r7 := (fun h0 h1 => by rw [U40]; exact I.r7 (D7.symm.trans h0) (D11.symm.trans h1)), r11 := (fun h0 => by rw [U44]; exact I.r11 (D11.symm.trans h0)), s0 := (fun h0 h1 h2 h3 => by rw [U33, U39]; exact I.s0 (D0.symm.trans h0) (D4.symm.trans h1) (D6.symm.trans h2) (D7.symm.trans h3)), s4 := (fun h0 h1 h2 => by rw [U37, U39]; exact I.s4 (D4.symm.trans h0) (D7.symm.trans h1) (D6.symm.trans h2)), o12 := (fun h => by rw [U4, U44, D11]; exact I.o12 (D12.symm.trans h)), i7 := (fun h => D4.trans (I.i7 (D7.symm.trans h))), i11 := (fun h => D7.trans (I.i11 (D11.symm.trans h))) }⟩
     ·
      skip
      have D0 : (d.setIfInBounds 11 true).getD 0 false = d.getD 0 false := getD_set_ne false (by decide)
      have D1 : (d.setIfInBounds 11 true).getD 1 false = d.getD 1 false := getD_set_ne false (by decide)
      have D2 : (d.setIfInBounds 11 true).getD 2 false = d.getD 2 false := getD_set_ne false (by decide)
      have D3 : (d.setIfInBounds 11 true).getD 3 false = d.getD 3 false := getD_set_ne false (by decide)
      have D4 : (d.setIfInBounds 11 true).getD 4 false = d.getD 4 false := getD_set_ne false (by decide)
      have D5 : (d.setIfInBounds 11 true).getD 5 false = d.getD 5 false := getD_set_ne false (by decide)
      have D6 : (d.setIfInBounds 11 true).getD 6 false = d.getD 6 false := getD_set_ne false (by decide)
      have D7 : (d.setIfInBounds 11 true).getD 7 false = d.getD 7 false := getD_set_ne false (by decide)
      have D8 : (d.setIfInBounds 11 true).getD 8 false = d.getD 8 false := getD_set_ne false (by decide)
      have D9 : (d.setIfInBounds 11 true).getD 9 false = d.getD 9 false := getD_set_ne false (by decide)
      have D10 : (d.setIfInBounds 11 true).getD 10 false = d.getD 10 false := getD_set_ne false (by decide)
      have D11 : (d.setIfInBounds 11 true).getD 11 false = true := getD_set_sameO hun
      have D12 : (d.setIfInBounds 11 true).getD 12 false = d.getD 12 false := getD_set_ne false (by decide)
      have e42 := I.o10 (hall ⟨10, .data⟩ (by simp) rfl)
      have h77 := hall ⟨7, .data⟩ (by simp) rfl
      have hRow := I.r7 (hall ⟨7, .data⟩ (by simp) rfl) (getD_tfO hun)
      refine wpOp_append_ptyO rfl rfl (.tmp 40) (.tmp 43) rfl wq.heap.size (us 40) (ps ++ [x]) rfl hRow (some ⟨g, 0, none⟩) (0) (([] : List (List UInt8))) (by show us 43 = _; rw [e42] <;> simp [hl3]) (q3.below I.bel) (.inr ⟨_, _, rfl⟩) (by simp [hl1, hl3] <;> omega) hsz ?_
      intro v W2 hR2 hB hg hv
      have U0 : updO us 44 (v) 0 = us 0 := upd_otherO (by decide)
      have U1 : updO us 44 (v) 1 = us 1 := upd_otherO (by decide)
      have U5 : updO us 44 (v) 5 = us 5 := upd_otherO (by decide)
      have U4 : updO us 44 (v) 4 = us 4 := upd_otherO (by decide)
      have U33 : updO us 44 (v) 33 = us 33 := upd_otherO (by decide)
      have U34 : updO us 44 (v) 34 = us 34 := upd_otherO (by decide)
      have U35 : updO us 44 (v) 35 = us 35 := upd_otherO (by decide)
      have U36 : updO us 44 (v) 36 = us 36 := upd_otherO (by decide)
      have U37 : updO us 44 (v) 37 = us 37 := upd_otherO (by decide)
      have U38 : updO us 44 (v) 38 = us 38 := upd_otherO (by decide)
      have U39 : updO us 44 (v) 39 = us 39 := upd_otherO (by decide)
      have U40 : updO us 44 (v) 40 = us 40 := upd_otherO (by decide)
      have U41 : updO us 44 (v) 41 = us 41 := upd_otherO (by decide)
      have U42 : updO us 44 (v) 42 = us 42 := upd_otherO (by decide)
      have U43 : updO us 44 (v) 43 = us 43 := upd_otherO (by decide)
      have U44 : updO us 44 (v) 44 = (v) := upd_sameO _ _ _
      refine ⟨updO us 44 v, by simp [frO, updO, Act.put], { u0 := (U0.trans I.u0), u3 := (U1.trans I.u3), u6 := (U5.trans I.u6), bel := (I.bel.trans hB), o1 := (cO U34 I.o1 D1), o2 := (cO U35 I.o2 D2), o3 := (cO U36 I.o3 D3), o5 := (cO U38 I.o5 D5), o8 := (cO U41 I.o8 D8), o9 := (cO U42 I.o9 D9), o10 := (cO U43 I.o10 D10), o6 := (fun h0 h1 => absurd h77 (by rw [D7.symm.trans h1]; exact Bool.false_ne_true)), r0 := (fun h0 h1 => absurd (I.i7 h77) (by rw [D4.symm.trans h1]; exact Bool.false_ne_true)), r4 := (fun h0 h1 => absurd h77 (by rw [D7.symm.trans h1]; exact Bool.false_ne_true)), r7 := (fun h0 h1 => by rw [D11] at h1; cases h1), r11 := (fun _ => by rw [U44]; exact hR2), s0 := (fun h0 h1 h2 h3 => by rw [U33, U39]; exact I.s0 (D0.symm.trans h0) (D4.symm.trans h1) (D6.symm.trans h2) (D7.symm.trans h3)), s4 := (fun h0 h1 h2 => by rw [U37, U39]; exact I.s4 (D4.symm.trans h0) (D7.symm.trans h1) (D6.symm.trans h2)), o12 := (fun h => absurd (I.o12 (D12.symm.trans h)).2 (by rw [getD_tfO hun]; exact Bool.false_ne_true)), i7 := (fun h => D4.trans (I.i7 (D7.symm.trans h))), i11 := (fun _ => D7.trans h77) }⟩
     ·
      skip
      have D0 : (d.setIfInBounds 12 true).getD 0 false = d.getD 0 false := getD_set_ne false (by decide)
      have D1 : (d.setIfInBounds 12 true).getD 1 false = d.getD 1 false := getD_set_ne false (by decide)
      have D2 : (d.setIfInBounds 12 true).getD 2 false = d.getD 2 false := getD_set_ne false (by decide)
      have D3 : (d.setIfInBounds 12 true).getD 3 false = d.getD 3 false := getD_set_ne false (by decide)
      have D4 : (d.setIfInBounds 12 true).getD 4 false = d.getD 4 false := getD_set_ne false (by decide)
      have D5 : (d.setIfInBounds 12 true).getD 5 false = d.getD 5 false := getD_set_ne false (by decide)
      have D6 : (d.setIfInBounds 12 true).getD 6 false = d.getD 6 false := getD_set_ne false (by decide)
      have D7 : (d.setIfInBounds 12 true).getD 7 false = d.getD 7 false := getD_set_ne false (by decide)
      have D8 : (d.setIfInBounds 12 true).getD 8 false = d.getD 8 false := getD_set_ne false (by decide)
      have D9 : (d.setIfInBounds 12 true).getD 9 false = d.getD 9 false := getD_set_ne false (by decide)
      have D10 : (d.setIfInBounds 12 true).getD 10 false = d.getD 10 false := getD_set_ne false (by decide)
      have D11 : (d.setIfInBounds 12 true).getD 11 false = d.getD 11 false := getD_set_ne false (by decide)
      have D12 : (d.setIfInBounds 12 true).getD 12 false = true := getD_set_sameO hun
      have h11 := hall ⟨11, .data⟩ (by simp) rfl
      have U0 : updO us 4 (us 44) 0 = us 0 := upd_otherO (by decide)
      have U1 : updO us 4 (us 44) 1 = us 1 := upd_otherO (by decide)
      have U5 : updO us 4 (us 44) 5 = us 5 := upd_otherO (by decide)
      have U4 : updO us 4 (us 44) 4 = (us 44) := upd_sameO _ _ _
      have U33 : updO us 4 (us 44) 33 = us 33 := upd_otherO (by decide)
      have U34 : updO us 4 (us 44) 34 = us 34 := upd_otherO (by decide)
      have U35 : updO us 4 (us 44) 35 = us 35 := upd_otherO (by decide)
      have U36 : updO us 4 (us 44) 36 = us 36 := upd_otherO (by decide)
      have U37 : updO us 4 (us 44) 37 = us 37 := upd_otherO (by decide)
      have U38 : updO us 4 (us 44) 38 = us 38 := upd_otherO (by decide)
      have U39 : updO us 4 (us 44) 39 = us 39 := upd_otherO (by decide)
      have U40 : updO us 4 (us 44) 40 = us 40 := upd_otherO (by decide)
      have U41 : updO us 4 (us 44) 41 = us 41 := upd_otherO (by decide)
      have U42 : updO us 4 (us 44) 42 = us 42 := upd_otherO (by decide)
      have U43 : updO us 4 (us 44) 43 = us 43 := upd_otherO (by decide)
      have U44 : updO us 4 (us 44) 44 = us 44 := upd_otherO (by decide)
      refine wpOp_step rfl (fun K hK => ?_)
      simp only [frO, e0, e3, e6]
      go_simp
      refine hK _ _ ⟨updO us 4 (us 44), by simp [frO, updO, e0, e3, e6], { u0 := (U0.trans I.u0), u3 := (U1.trans I.u3), u6 := (U5.trans I.u6), bel := (I.bel), o1 := (cO U34 I.o1 D1), o2 := (cO U35 I.o2 D2), o3 := (cO U36 I.o3 D3), o5 := (cO U38 I.o5 D5), o8 := (cO U41 I.o8 D8), o9 := (cO U42 I.o9 D9), o10 := (cO U43 I.o10 D10), o6 := (fun h0 h1 => by rw [U39]; exact I.o6 (D6.symm.trans h0) (D7.symm.trans h1)), r0 := (fun h0 h1 => by rw [U33]; exact I.r0 (D0.symm.trans h0) (D4.symm.trans h1)), r4 := (fun h0 h1 => by rw [U37]; exact I.r4 (D4.symm.trans h0) (D7.symm.trans h1)), r7 := (fun h0 h1 => by rw [U40]; exact I.r7 (D7.symm.trans h0) (D11.symm.trans h1)), r11 := (fun h0 => by rw [U44]; exact I.r11 (D11.symm.trans h0)), s0 := (fun h0 h1 h2 h3 => by rw [U33, U39]; exact I.s0 (D0.symm.trans h0) (D4.symm.trans h1) (D6.symm.trans h2) (D7.symm.trans h3)), s4 := (fun h0 h1 h2 => by rw [U37, U39]; exact I.s4 (D4.symm.trans h0) (D7.symm.trans h1) (D6.symm.trans h2)), o12 := (fun _ => ⟨by rw [U4, U44], by rw [D11]; exact h11⟩), i7 := (fun h => D4.trans (I.i7 (D7.symm.trans h))), i11 := (fun h => D7.trans (I.i11 (D11.symm.trans h))) }⟩
    ·
     intro d a W hd hall hI
     obtain ⟨us, rfl, I⟩ := hI
     have D : ∀ k, k < 13 -> d.getD k false = true := fun k hk => by
      have := hall k hk
      have hk2 : k < d.size := by rw [hd]; exact hk
      simp [hk2] at this ⊢; exact this
     obtain ⟨h7, h11⟩ := I.o12 (D 12 (by decide))
     obtain ⟨O, q, e43, hO⟩ := I.r11 h11
     have e7 := h7.trans e43
     have e3 := I.u3
     have hbel := I.bel
     rw [hjoin] at e7 hO
     clear I hall D h7 e43
     simp only [frO, e7]
     go_wp2_with fail
     go_ret
     exact HQ.out _ _ _ hO hbel
   ·
    have q1 := hR0.takeO ps.length
    have q3 := hR0.dropO ps.length
    have e1 : ps.length ≠ c := by omega
    have e1s : ¬ c = ps.length := by omega
    have e2 : ps.length < c := by omega
    obtain ⟨wq, hwq⟩ : ∃ wq, wq = w := ⟨_, rfl⟩
    go_wp2_with fail
    subst hwq
    have hl1 : ((ps.take ps.length)).length = ps.length := by rw [List.length_take]; omega
    have hl3 : ((ps.drop ps.length)).length = (ps.length - ps.length) := by rw [List.length_drop]
    refine region_inv (by kernel_rfl) (by kernel_rfl) (fun d a W => ∃ us, a = frO us /\ InvO wq.heap.size (ps.length) (c) (ps.length) (some ⟨g, 0, none⟩) (.slice (some ⟨g, 0, none⟩) ps.length c) (.slice (some ⟨g, ps.length, none⟩) (ps.length - ps.length) (c - ps.length)) ((ps.take ps.length)) ((ps.drop ps.length)) x wq d us W) ?_ ?_ ?_
    ·
     refine ⟨_, frO_of, ?_⟩
     have Z : ∀ k, (Array.replicate 13 false).getD k false = false := fun k => by
      rcases Nat.lt_or_ge k 13 with h | h
      ·
       simp [h]
      ·
       simp [Array.getElem?_eq_none, h]
     have Zn : ∀ {k : Nat} {p : Prop}, (Array.replicate 13 false).getD k false = true -> p := fun {k p} h => by rw [Z k] at h; cases h
     exact { u0 := rfl, u3 := rfl, u6 := rfl, bel := (Below.refl _ _).drew, o1 := Zn, o2 := Zn, o3 := Zn, o5 := Zn, o8 := Zn, o9 := Zn, o10 := Zn, o6 := Zn, r0 := Zn, r4 := Zn, r7 := Zn, r11 := Zn, s0 := Zn, s4 := Zn, o12 := Zn, i7 := Zn, i11 := Zn }
    ·
     intro i d a W hi hI
     obtain ⟨hun, oi, hoi, hall⟩ := mem_ready.1 hi
     have hlt : i < 13 := (Array.getElem?_eq_some_iff.1 hoi).1
     obtain ⟨us, rfl, I⟩ := hI
     have hsz : wq.heap.size <= W.heap.size := I.bel.size
     have e0 := I.u0
     have e3 := I.u3
     have e6 := I.u6
     rcases (by omega : i = 0 ∨ i = 1 ∨ i = 2 ∨ i = 3 ∨ i = 4 ∨ i = 5 ∨ i = 6 ∨ i = 7 ∨ i = 8 ∨ i = 9 ∨ i = 10 ∨ i = 11 ∨ i = 12) with rfl | rfl | rfl | rfl | rfl | rfl | rfl | rfl | rfl | rfl | rfl | rfl | rfl
     all_goals
      obtain rfl := Option.some.inj hoi
      clear hoi hlt hi
     ·
      skip
      have D0 : (d.setIfInBounds 0 true).getD 0 false = true := getD_set_sameO hun
      have D1 : (d.setIfInBounds 0 true).getD 1 false = d.getD 1 false := getD_set_ne false (by decide)
      have D2 : (d.setIfInBounds 0 true).getD 2 false = d.getD 2 false := getD_set_ne false (by decide)
      have D3 : (d.setIfInBounds 0 true).getD 3 false = d.getD 3 false := getD_set_ne false (by decide)
      have D4 : (d.setIfInBounds 0 true).getD 4 false = d.getD 4 false := getD_set_ne false (by decide)
      have D5 : (d.setIfInBounds 0 true).getD 5 false = d.getD 5 false := getD_set_ne false (by decide)
      have D6 : (d.setIfInBounds 0 true).getD 6 false = d.getD 6 false := getD_set_ne false (by decide)
      have D7 : (d.setIfInBounds 0 true).getD 7 false = d.getD 7 false := getD_set_ne false (by decide)
      have D8 : (d.setIfInBounds 0 true).getD 8 false = d.getD 8 false := getD_set_ne false (by decide)
      have D9 : (d.setIfInBounds 0 true).getD 9 false = d.getD 9 false := getD_set_ne false (by decide)
      have D10 : (d.setIfInBounds 0 true).getD 10 false = d.getD 10 false := getD_set_ne false (by decide)
      have D11 : (d.setIfInBounds 0 true).getD 11 false = d.getD 11 false := getD_set_ne false (by decide)
      have D12 : (d.setIfInBounds 0 true).getD 12 false = d.getD 12 false := getD_set_ne false (by decide)
      have U0 : updO us 33 (.slice (some ⟨W.heap.size, 0, none⟩) 0 0) 0 = us 0 := upd_otherO (by decide)
      have U1 : updO us 33 (.slice (some ⟨W.heap.size, 0, none⟩) 0 0) 1 = us 1 := upd_otherO (by decide)
      have U5 : updO us 33 (.slice (some ⟨W.heap.size, 0, none⟩) 0 0) 5 = us 5 := upd_otherO (by decide)
      have U4 : updO us 33 (.slice (some ⟨W.heap.size, 0, none⟩) 0 0) 4 = us 4 := upd_otherO (by decide)
      have U33 : updO us 33 (.slice (some ⟨W.heap.size, 0, none⟩) 0 0) 33 = (.slice (some ⟨W.heap.size, 0, none⟩) 0 0) := upd_sameO _ _ _
      have U34 : updO us 33 (.slice (some ⟨W.heap.size, 0, none⟩) 0 0) 34 = us 34 := upd_otherO (by decide)
      have U35 : updO us 33 (.slice (some ⟨W.heap.size, 0, none⟩) 0 0) 35 = us 35 := upd_otherO (by decide)
      have U36 : updO us 33 (.slice (some ⟨W.heap.size, 0, none⟩) 0 0) 36 = us 36 := upd_otherO (by decide)
      have U37 : updO us 33 (.slice (some ⟨W.heap.size, 0, none⟩) 0 0) 37 = us 37 := upd_otherO (by decide)
      have U38 : updO us 33 (.slice (some ⟨W.heap.size, 0, none⟩) 0 0) 38 = us 38 := upd_otherO (by decide)
      have U39 : updO us 33 (.slice (some ⟨W.heap.size, 0, none⟩) 0 0) 39 = us 39 := upd_otherO (by decide)
      have U40 : updO us 33 (.slice (some ⟨W.heap.size, 0, none⟩) 0 0) 40 = us 40 := upd_otherO (by decide)
      have U41 : updO us 33 (.slice (some ⟨W.heap.size, 0, none⟩) 0 0) 41 = us 41 := upd_otherO (by decide)
      have U42 : updO us 33 (.slice (some ⟨W.heap.size, 0, none⟩) 0 0) 42 = us 42 := upd_otherO (by decide)
      have U43 : updO us 33 (.slice (some ⟨W.heap.size, 0, none⟩) 0 0) 43 = us 43 := upd_otherO (by decide)
      have U44 : updO us 33 (.slice (some ⟨W.heap.size, 0, none⟩) 0 0) 44 = us 44 := upd_otherO (by decide)
      refine wpOp_step rfl (fun K hK => ?_)
      simp only [frO, e0, e3, e6]
      go_simp
      refine hK _ _ ⟨updO us 33 (.slice (some ⟨W.heap.size, 0, none⟩) 0 0), by simp [frO, updO, e0, e3, e6], { u0 := (U0.trans I.u0), u3 := (U1.trans I.u3), u6 := (U5.trans I.u6), bel := (I.bel.alloc hsz _), o1 := (cO U34 I.o1 D1), o2 := (cO U35 I.o2 D2), o3 := (cO U36 I.o3 D3), o5 := (cO U38 I.o5 D5), o8 := (cO U41 I.o8 D8), o9 := (cO U42 I.o9 D9), o10 := (cO U43 I.o10 D10), o6 := (fun h0 h1 => by rw [U39]; exact (I.o6 (D6.symm.trans h0) (D7.symm.trans h1)).below (below_alloc _ _)), r0 := (fun h0 h1 => by rw [U33]; exact ⟨_, _, rfl, made0i _ _ _ _ hsz⟩), r4 := (fun h0 h1 => by rw [U37]; exact (I.r4 (D4.symm.trans h0) (D7.symm.trans h1)).below (below_alloc _ _)), r7 := (fun h0 h1 => by rw [U40]; exact (I.r7 (D7.symm.trans h0) (D11.symm.trans h1)).below (below_alloc _ _)), r11 := (fun h0 => by rw [U44]; exact (I.r11 (D11.symm.trans h0)).below (below_alloc _ _)), s0 := (fun h0 h1 h2 h3 => by rw [U33, U39]; exact sep_gtO fun k hk => (I.o6 (D6.symm.trans h2) (D7.symm.trans h3)).lt hk), s4 := (fun h0 h1 h2 => by rw [U37, U39]; exact I.s4 (D4.symm.trans h0) (D7.symm.trans h1) (D6.symm.trans h2)), o12 := (fun h => by rw [U4, U44, D11]; exact I.o12 (D12.symm.trans h)), i7 := (fun h => D4.trans (I.i7 (D7.symm.trans h))), i11 := (fun h => D7.trans (I.i11 (D11.symm.trans h))) }⟩
     ·
      skip
      have D0 : (d.setIfInBounds 1 true).getD 0 false = d.getD 0 false := getD_set_ne false (by decide)
      have D1 : (d.setIfInBounds 1 true).getD 1 false = true := getD_set_sameO hun
      have D2 : (d.setIfInBounds 1 true).getD 2 false = d.getD 2 false := getD_set_ne false (by decide)
      have D3 : (d.setIfInBounds 1 true).getD 3 false = d.getD 3 false := getD_set_ne false (by decide)
      have D4 : (d.setIfInBounds 1 true).getD 4 false = d.getD 4 false := getD_set_ne false (by decide)
      have D5 : (d.setIfInBounds 1 true).getD 5 false = d.getD 5 false := getD_set_ne false (by decide)
      have D6 : (d.setIfInBounds 1 true).getD 6 false = d.getD 6 false := getD_set_ne false (by decide)
      have D7 : (d.setIfInBounds 1 true).getD 7 false = d.getD 7 false := getD_set_ne false (by decide)
      have D8 : (d.setIfInBounds 1 true).getD 8 false = d.getD 8 false := getD_set_ne false (by decide)
      have D9 : (d.setIfInBounds 1 true).getD 9 false = d.getD 9 false := getD_set_ne false (by decide)
      have D10 : (d.setIfInBounds 1 true).getD 10 false = d.getD 10 false := getD_set_ne false (by decide)
      have D11 : (d.setIfInBounds 1 true).getD 11 false = d.getD 11 false := getD_set_ne false (by decide)
      have D12 : (d.setIfInBounds 1 true).getD 12 false = d.getD 12 false := getD_set_ne false (by decide)
      have U0 : updO us 34 (.slice (some ⟨g, 0, none⟩) ps.length c) 0 = us 0 := upd_otherO (by decide)
      have U1 : updO us 34 (.slice (some ⟨g, 0, none⟩) ps.length c) 1 = us 1 := upd_otherO (by decide)
      have U5 : updO us 34 (.slice (some ⟨g, 0, none⟩) ps.length c) 5 = us 5 := upd_otherO (by decide)
      have U4 : updO us 34 (.slice (some ⟨g, 0, none⟩) ps.length c) 4 = us 4 := upd_otherO (by decide)
      have U33 : updO us 34 (.slice (some ⟨g, 0, none⟩) ps.length c) 33 = us 33 := upd_otherO (by decide)
      have U34 : updO us 34 (.slice (some ⟨g, 0, none⟩) ps.length c) 34 = (.slice (some ⟨g, 0, none⟩) ps.length c) := upd_sameO _ _ _
      have U35 : updO us 34 (.slice (some ⟨g, 0, none⟩) ps.length c) 35 = us 35 := upd_otherO (by decide)
      have U36 : updO us 34 (.slice (some ⟨g, 0, none⟩) ps.length c) 36 = us 36 := upd_otherO (by decide)
      have U37 : updO us 34 (.slice (some ⟨g, 0, none⟩) ps.length c) 37 = us 37 := upd_otherO (by decide)
      have U38 : updO us 34 (.slice (some ⟨g, 0, none⟩) ps.length c) 38 = us 38 := upd_otherO (by decide)
      have U39 : updO us 34 (.slice (some ⟨g, 0, none⟩) ps.length c) 39 = us 39 := upd_otherO (by decide)
      have U40 : updO us 34 (.slice (some ⟨g, 0, none⟩) ps.length c) 40 = us 40 := upd_otherO (by decide)
      have U41 : updO us 34 (.slice (some ⟨g, 0, none⟩) ps.length c) 41 = us 41 := upd_otherO (by decide)
      have U42 : updO us 34 (.slice (some ⟨g, 0, none⟩) ps.length c) 42 = us 42 := upd_otherO (by decide)
      have U43 : updO us 34 (.slice (some ⟨g, 0, none⟩) ps.length c) 43 = us 43 := upd_otherO (by decide)
      have U44 : updO us 34 (.slice (some ⟨g, 0, none⟩) ps.length c) 44 = us 44 := upd_otherO (by decide)
      refine wpOp_step rfl (fun K hK => ?_)
      simp only [frO, e0, e3, e6]
      go_simp
      refine hK _ _ ⟨updO us 34 (.slice (some ⟨g, 0, none⟩) ps.length c), by simp [frO, updO, e0, e3, e6], { u0 := (U0.trans I.u0), u3 := (U1.trans I.u3), u6 := (U5.trans I.u6), bel := (I.bel), o1 := (fun _ => U34), o2 := (cO U35 I.o2 D2), o3 := (cO U36 I.o3 D3), o5 := (cO U38 I.o5 D5), o8 := (cO U41 I.o8 D8), o9 := (cO U42 I.o9 D9), o10 := (cO U43 I.o10 D10), o6 := (fun h0 h1 => by rw [U39]; exact I.o6 (D6.symm.trans h0) (D7.symm.trans h1)), r0 := (fun h0 h1 => by rw [U33]; exact I.r0 (D0.symm.trans h0) (D4.symm.trans h1)), r4 := (fun h0 h1 => by rw [U37]; exact I.r4 (D4.symm.trans h0) (D7.symm.trans h1)), r7 := (fun h0 h1 => by rw [U40]; exact I.r7 (D7.symm.trans h0) (D11.symm.trans h1)), r11 := (fun h0 => by rw [U44]; exact I.r11 (D11.symm.trans h0)), s0 := (fun h0 h1 h2 h3 => by rw [U33, U39]; exact I.s0 (D0.symm.trans h0) (D4.symm.trans h1) (D6.symm.trans h2) (D7.symm.trans h3)), s4 := (fun h0 h1 h2 => by rw [U37, U39]; exact I.s4 (D4.symm.trans h0) (D7.symm.trans h1) (D6.symm.trans h2)), o12 := (fun h => by rw [U4, U44, D11]; exact I.o12 (D12.symm.trans h)), i7 := (fun h => D4.trans (I.i7 (D7.symm.trans h))), i11 := (fun h => D7.trans (I.i11 (D11.symm.trans h))) }⟩
     ·
      skip
      have D0 : (d.setIfInBounds 2 true).getD 0 false = d.getD 0 false := getD_set_ne false (by decide)
      have D1 : (d.setIfInBounds 2 true).getD 1 false = d.getD 1 false := getD_set_ne false (by decide)
      have D2 : (d.setIfInBounds 2 true).getD 2 false = true := getD_set_sameO hun
      have D3 : (d.setIfInBounds 2 true).getD 3 false = d.getD 3 false := getD_set_ne false (by decide)
      have D4 : (d.setIfInBounds 2 true).getD 4 false = d.getD 4 false := getD_set_ne false (by decide)
      have D5 : (d.setIfInBounds 2 true).getD 5 false = d.getD 5 false := getD_set_ne false (by decide)
      have D6 : (d.setIfInBounds 2 true).getD 6 false = d.getD 6 false := getD_set_ne false (by decide)
      have D7 : (d.setIfInBounds 2 true).getD 7 false = d.getD 7 false := getD_set_ne false (by decide)
      have D8 : (d.setIfInBounds 2 true).getD 8 false = d.getD 8 false := getD_set_ne false (by decide)
      have D9 : (d.setIfInBounds 2 true).getD 9 false = d.getD 9 false := getD_set_ne false (by decide)
      have D10 : (d.setIfInBounds 2 true).getD 10 false = d.getD 10 false := getD_set_ne false (by decide)
      have D11 : (d.setIfInBounds 2 true).getD 11 false = d.getD 11 false := getD_set_ne false (by decide)
      have D12 : (d.setIfInBounds 2 true).getD 12 false = d.getD 12 false := getD_set_ne false (by decide)
      have U0 : updO us 35 (.int .i64 ((ps.length : Nat) : Int)) 0 = us 0 := upd_otherO (by decide)
      have U1 : updO us 35 (.int .i64 ((ps.length : Nat) : Int)) 1 = us 1 := upd_otherO (by decide)
      have U5 : updO us 35 (.int .i64 ((ps.length : Nat) : Int)) 5 = us 5 := upd_otherO (by decide)
      have U4 : updO us 35 (.int .i64 ((ps.length : Nat) : Int)) 4 = us 4 := upd_otherO (by decide)
      have U33 : updO us 35 (.int .i64 ((ps.length : Nat) : Int)) 33 = us 33 := upd_otherO (by decide)
      have U34 : updO us 35 (.int .i64 ((ps.length : Nat) : Int)) 34 = us 34 := upd_otherO (by decide)
      have U35 : updO us 35 (.int .i64 ((ps.length : Nat) : Int)) 35 = (.int .i64 ((ps.length : Nat) : Int)) := upd_sameO _ _ _
      have U36 : updO us 35 (.int .i64 ((ps.length : Nat) : Int)) 36 = us 36 := upd_otherO (by decide)
      have U37 : updO us 35 (.int .i64 ((ps.length : Nat) : Int)) 37 = us 37 := upd_otherO (by decide)
      have U38 : updO us 35 (.int .i64 ((ps.length : Nat) : Int)) 38 = us 38 := upd_otherO (by decide)
      have U39 : updO us 35 (.int .i64 ((ps.length : Nat) : Int)) 39 = us 39 := upd_otherO (by decide)
      have U40 : updO us 35 (.int .i64 ((ps.length : Nat) : Int)) 40 = us 40 := upd_otherO (by decide)
      have U41 : updO us 35 (.int .i64 ((ps.length : Nat) : Int)) 41 = us 41 := upd_otherO (by decide)
      have U42 : updO us 35 (.int .i64 ((ps.length : Nat) : Int)) 42 = us 42 := upd_otherO (by decide)
      have U43 : updO us 35 (.int .i64 ((ps.length : Nat) : Int)) 43 = us 43 := upd_otherO (by decide)
      have U44 : updO us 35 (.int .i64 ((ps.length : Nat) : Int)) 44 = us 44 := upd_otherO (by decide)
      refine wpOp_step rfl (fun K hK => ?_)
      simp only [frO, e0, e3, e6]
      go_simp
      refine hK _ _ ⟨updO us 35 (.int .i64 ((ps.length : Nat) : Int)), by simp [frO, updO, e0, e3, e6], { u0 := (U0.trans I.u0), u3 := (U1.trans I.u3), u6 := (U5.trans I.u6), bel := (I.bel), o1 := (cO U34 I.o1 D1), o2 := (fun _ => U35), o3 := (cO U36 I.o3 D3), o5 := (cO U38 I.o5 D5), o8 := (cO U41 I.o8 D8), o9 := (cO U42 I.o9 D9), o10 := (cO U43 I.o10 D10), o6 := (fun h0 h1 => by rw [U39]; exact I.o6 (D6.symm.trans h0) (D7.symm.trans h1)), r0 := (fun h0 h1 => by rw [U33]; exact I.r0 (D0.symm.trans h0) (D4.symm.trans h1)), r4 := (fun h0 h1 => by rw [U37]; exact I.r4 (D4.symm.trans h0) (D7.symm.trans h1)), r7 := (fun h0 h1 => by rw [U40]; exact I.r7 (D7.symm.trans h0) (D11.symm.trans h1)), r11 := (fun h0 => by rw [U44]; exact I.r11 (D11.symm.trans h0)), s0 := (fun h0 h1 h2 h3 => by rw [U33, U39]; exact I.s0 (D0.symm.trans h0) (D4.symm.trans h1) (D6.symm.trans h2) (D7.symm.trans h3)), s4 := (fun h0 h1 h2 => by rw [U37, U39]; exact I.s4 (D4.symm.trans h0) (D7.symm.trans h1) (D6.symm.trans h2)), o12 := (fun h => by rw [U4, U44, D11]; exact I.o12 (D12.symm.trans h)), i7 := (fun h => D4.trans (I.i7 (D7.symm.trans h))), i11 := (fun h => D7.trans (I.i11 (D11.symm.trans h))) }⟩
     ·
      skip
      have D0 : (d.setIfInBounds 3 true).getD 0 false = d.getD 0 false := getD_set_ne false (by decide)
      have D1 : (d.setIfInBounds 3 true).getD 1 false = d.getD 1 false := getD_set_ne false (by decide)
      have D2 : (d.setIfInBounds 3 true).getD 2 false = d.getD 2 false := getD_set_ne false (by decide)
      have D3 : (d.setIfInBounds 3 true).getD 3 false = true := getD_set_sameO hun
      have D4 : (d.setIfInBounds 3 true).getD 4 false = d.getD 4 false := getD_set_ne false (by decide)
      have D5 : (d.setIfInBounds 3 true).getD 5 false = d.getD 5 false := getD_set_ne false (by decide)
      have D6 : (d.setIfInBounds 3 true).getD 6 false = d.getD 6 false := getD_set_ne false (by decide)
      have D7 : (d.setIfInBounds 3 true).getD 7 false = d.getD 7 false := getD_set_ne false (by decide)
      have D8 : (d.setIfInBounds 3 true).getD 8 false = d.getD 8 false := getD_set_ne false (by decide)
      have D9 : (d.setIfInBounds 3 true).getD 9 false = d.getD 9 false := getD_set_ne false (by decide)
      have D10 : (d.setIfInBounds 3 true).getD 10 false = d.getD 10 false := getD_set_ne false (by decide)
      have D11 : (d.setIfInBounds 3 true).getD 11 false = d.getD 11 false := getD_set_ne false (by decide)
      have D12 : (d.setIfInBounds 3 true).getD 12 false = d.getD 12 false := getD_set_ne false (by decide)
      have e33 := I.o1 (hall ⟨1, .data⟩ (by simp) rfl)
      have e34 := I.o2 (hall ⟨2, .data⟩ (by simp) rfl)
      have U0 : updO us 36 (.slice (some ⟨g, 0, none⟩) ps.length c) 0 = us 0 := upd_otherO (by decide)
      have U1 : updO us 36 (.slice (some ⟨g, 0, none⟩) ps.length c) 1 = us 1 := upd_otherO (by decide)
      have U5 : updO us 36 (.slice (some ⟨g, 0, none⟩) ps.length c) 5 = us 5 := upd_otherO (by decide)
      have U4 : updO us 36 (.slice (some ⟨g, 0, none⟩) ps.length c) 4 = us 4 := upd_otherO (by decide)
      have U33 : updO us 36 (.slice (some ⟨g, 0, none⟩) ps.length c) 33 = us 33 := upd_otherO (by decide)
      have U34 : updO us 36 (.slice (some ⟨g, 0, none⟩) ps.length c) 34 = us 34 := upd_otherO (by decide)
      have U35 : updO us 36 (.slice (some ⟨g, 0, none⟩) ps.length c) 35 = us 35 := upd_otherO (by decide)
      have U36 : updO us 36 (.slice (some ⟨g, 0, none⟩) ps.length c) 36 = (.slice (some ⟨g, 0, none⟩) ps.length c) := upd_sameO _ _ _
      have U37 : updO us 36 (.slice (some ⟨g, 0, none⟩) ps.length c) 37 = us 37 := upd_otherO (by decide)
      have U38 : updO us 36 (.slice (some ⟨g, 0, none⟩) ps.length c) 38 = us 38 := upd_otherO (by decide)
      have U39 : updO us 36 (.slice (some ⟨g, 0, none⟩) ps.length c) 39 = us 39 := upd_otherO (by decide)
      have U40 : updO us 36 (.slice (some ⟨g, 0, none⟩) ps.length c) 40 = us 40 := upd_otherO (by decide)
      have U41 : updO us 36 (.slice (some ⟨g, 0, none⟩) ps.length c) 41 = us 41 := upd_otherO (by decide)
      have U42 : updO us 36 (.slice (some ⟨g, 0, none⟩) ps.length c) 42 = us 42 := upd_otherO (by decide)
      have U43 : updO us 36 (.slice (some ⟨g, 0, none⟩) ps.length c) 43 = us 43 := upd_otherO (by decide)
      have U44 : updO us 36 (.slice (some ⟨g, 0, none⟩) ps.length c) 44 = us 44 := upd_otherO (by decide)
      refine wpOp_step rfl (fun K hK => ?_)
      simp only [frO, e0, e3, e6, e33, e34]
      go_simp
      try (rw [if_pos (by omega)]; go_simp)
      refine hK _ _ ⟨updO us 36 (.slice (some ⟨g, 0, none⟩) ps.length c), by simp [frO, updO, e0, e3, e6, e33, e34], { u0 := (U0.trans I.u0), u3 := (U1.trans I.u3), u6 := (U5.trans I.u6), bel := (I.bel), o1 := (cO U34 I.o1 D1), o2 := (cO U35 I.o2 D2), o3 := (fun _ => U36), o5 := (cO U38 I.o5 D5), o8 := (cO U41 I.o8 D8), o9 := (cO U42 I.o9 D9), o10 := (cO U43 I.o10 D10), o6 := (fun h0 h1 => by rw [U39]; exact I.o6 (D6.symm.trans h0) (D7.symm.trans h1)), r0 := (fun h0 h1 => by rw [U33]; exact I.r0 (D0.symm.trans h0) (D4.symm.trans h1)), r4 := (fun h0 h1 => by rw [U37]; exact I.r4 (D4.symm.trans h0) (D7.symm.trans h1)), r7 := (fun h0 h1 => by rw [U40]; exact I.r7 (D7.symm.trans h0) (D11.symm.trans h1)), r11 := (fun h0 => by rw [U44]; exact I.r11 (D11.symm.trans h0)), s0 := (fun h0 h1 h2 h3 => by rw [U33, U39]; exact I.s0 (D0.symm.trans h0) (D4.symm.trans h1) (D6.symm.trans h2) (D7.symm.trans h3)), s4 := (fun h0 h1 h2 => by rw [U37, U39]; exact I.s4 (D4.symm.trans h0) (D7.symm.trans h1) (D6.symm.trans h2)), o12 := (fun h => by rw [U4, U44, D11]; exact I.o12 (D12.symm.trans h)), i7 := (fun h => D4.trans (I.i7 (D7.symm.trans h))), i11 := (fun h => D7.trans (I.i11 (D11.symm.trans h))) }⟩
     ·
      skip
      have D0 : (d.setIfInBounds 4 true).getD 0 false = d.getD 0 false := getD_set_ne false (by decide)
      have D1 : (d.setIfInBounds 4 true).getD 1 false = d.getD 1 false := getD_set_ne false (by decide)
      have D2 : (d.setIfInBounds 4 true).getD 2 false = d.getD 2 false := getD_set_ne false (by decide)
      have D3 : (d.setIfInBounds 4 true).getD 3 false = d.getD 3 false := getD_set_ne false (by decide)
      have D4 : (d.setIfInBounds 4 true).getD 4 false = true := getD_set_sameO hun
      have D5 : (d.setIfInBounds 4 true).getD 5 false = d.getD 5 false := getD_set_ne false (by decide)
      have D6 : (d.setIfInBounds 4 true).getD 6 false = d.getD 6 false := getD_set_ne false (by decide)
      have D7 : (d.setIfInBounds 4 true).getD 7 false = d.getD 7 false := getD_set_ne false (by decide)
      have D8 : (d.setIfInBounds 4 true).getD 8 false = d.getD 8 false := getD_set_ne false (by decide)
      have D9 : (d.setIfInBounds 4 true).getD 9 false = d.getD 9 false := getD_set_ne false (by decide)
      have D10 : (d.setIfInBounds 4 true).getD 10 false = d.getD 10 false := getD_set_ne false (by decide)
      have D11 : (d.setIfInBounds 4 true).getD 11 false = d.getD 11 false := getD_set_ne false (by decide)
      have D12 : (d.setIfInBounds 4 true).getD 12 false = d.getD 12 false := getD_set_ne false (by decide)
      have e35 := I.o3 (hall ⟨3, .data⟩ (by simp) rfl)
      have h00 := hall ⟨0, .data⟩ (by simp) rfl
      have hRow := I.r0 (hall ⟨0, .data⟩ (by simp) rfl) (getD_tfO hun)
      refine wpOp_append_ptyO rfl rfl (.tmp 33) (.tmp 36) rfl wq.heap.size (us 33) [] rfl hRow (some ⟨g, 0, none⟩) (c) ((ps.take ps.length)) (by show us 36 = _; rw [e35] <;> simp [hl1]) (q1.below I.bel) (.inr ⟨_, _, rfl⟩) (by simp [hl1, hl3] <;> omega) hsz ?_
      intro v W2 hR2 hB hg hv
      have U0 : updO us 37 (v) 0 = us 0 := upd_otherO (by decide)
      have U1 : updO us 37 (v) 1 = us 1 := upd_otherO (by decide)
      have U5 : updO us 37 (v) 5 = us 5 := upd_otherO (by decide)
      have U4 : updO us 37 (v) 4 = us 4 := upd_otherO (by decide)
      have U33 : updO us 37 (v) 33 = us 33 := upd_otherO (by decide)
      have U34 : updO us 37 (v) 34 = us 34 := upd_otherO (by decide)
      have U35 : updO us 37 (v) 35 = us 35 := upd_otherO (by decide)
      have U36 : updO us 37 (v) 36 = us 36 := upd_otherO (by decide)
      have U37 : updO us 37 (v) 37 = (v) := upd_sameO _ _ _
      have U38 : updO us 37 (v) 38 = us 38 := upd_otherO (by decide)
      have U39 : updO us 37 (v) 39 = us 39 := upd_otherO (by decide)
      have U40 : updO us 37 (v) 40 = us 40 := upd_otherO (by decide)
      have U41 : updO us 37 (v) 41 = us 41 := upd_otherO (by decide)
      have U42 : updO us 37 (v) 42 = us 42 := upd_otherO (by decide)
      have U43 : updO us 37 (v) 43 = us 43 := upd_otherO (by decide)
      have U44 : updO us 37 (v) 44 = us 44 := upd_otherO (by decide)
      refine ⟨updO us 37 v, by simp [frO, updO, Act.put], { u0 := (U0.trans I.u0), u3 := (U1.trans I.u3), u6 := (U5.trans I.u6), bel := (I.bel.trans hB), o1 := (cO U34 I.o1 D1), o2 := (cO U35 I.o2 D2), o3 := (cO U36 I.o3 D3), o5 := (cO U38 I.o5 D5), o8 := (cO U41 I.o8 D8), o9 := (cO U42 I.o9 D9), o10 := (cO U43 I.o10 D10), o6 := (fun h0 h1 => by rw [U39]; exact (I.o6 (D6.symm.trans h0) (D7.symm.trans h1)).sep (I.s0 h00 (getD_tfO hun) (D6.symm.trans h0) (D7.symm.trans h1)) hg), r0 := (fun h0 h1 => by rw [D4] at h1; cases h1), r4 := (fun _ _ => by rw [U37]; simpa using hR2), r7 := (fun h0 h1 => absurd (I.i7 (D7.symm.trans h0)) (by rw [getD_tfO hun]; exact Bool.false_ne_true)), r11 := (fun h0 => absurd (I.i7 (I.i11 (D11.symm.trans h0))) (by rw [getD_tfO hun]; exact Bool.false_ne_true)), s0 := (fun h0 h1 h2 h3 => by rw [D4] at h1; cases h1), s4 := (fun h0 h1 h2 => by rw [U37, U39]; exact sep_appO (I.o6 (D6.symm.trans h2) (D7.symm.trans h1)) (I.s0 h00 (getD_tfO hun) (D6.symm.trans h2) (D7.symm.trans h1)) hv), o12 := (fun h => by rw [U4, U44, D11]; exact I.o12 (D12.symm.trans h)), i7 := (fun _ => D4), i11 := (fun h => D7.trans (I.i11 (D11.symm.trans h))) }⟩
     ·
      skip
      have D0 : (d.setIfInBounds 5 true).getD 0 false = d.getD 0 false := getD_set_ne false (by decide)
      have D1 : (d.setIfInBounds 5 true).getD 1 false = d.getD 1 false := getD_set_ne false (by decide)
      have D2 : (d.setIfInBounds 5 true).getD 2 false = d.getD 2 false := getD_set_ne false (by decide)
      have D3 : (d.setIfInBounds 5 true).getD 3 false = d.getD 3 false := getD_set_ne false (by decide)
      have D4 : (d.setIfInBounds 5 true).getD 4 false = d.getD 4 false := getD_set_ne false (by decide)
      have D5 : (d.setIfInBounds 5 true).getD 5 false = true := getD_set_sameO hun
      have D6 : (d.setIfInBounds 5 true).getD 6 false = d.getD 6 false := getD_set_ne false (by decide)
      have D7 : (d.setIfInBounds 5 true).getD 7 false = d.getD 7 false := getD_set_ne false (by decide)
      have D8 : (d.setIfInBounds 5 true).getD 8 false = d.getD 8 false := getD_set_ne false (by decide)
      have D9 : (d.setIfInBounds 5 true).getD 9 false = d.getD 9 false := getD_set_ne false (by decide)
      have D10 : (d.setIfInBounds 5 true).getD 10 false = d.getD 10 false := getD_set_ne false (by decide)
      have D11 : (d.setIfInBounds 5 true).getD 11 false = d.getD 11 false := getD_set_ne false (by decide)
      have D12 : (d.setIfInBounds 5 true).getD 12 false = d.getD 12 false := getD_set_ne false (by decide)
      have U0 : updO us 38 (.string ⟨x.toArray⟩) 0 = us 0 := upd_otherO (by decide)
      have U1 : updO us 38 (.string ⟨x.toArray⟩) 1 = us 1 := upd_otherO (by decide)
      have U5 : updO us 38 (.string ⟨x.toArray⟩) 5 = us 5 := upd_otherO (by decide)
      have U4 : updO us 38 (.string ⟨x.toArray⟩) 4 = us 4 := upd_otherO (by decide)
      have U33 : updO us 38 (.string ⟨x.toArray⟩) 33 = us 33 := upd_otherO (by decide)
      have U34 : updO us 38 (.string ⟨x.toArray⟩) 34 = us 34 := upd_otherO (by decide)
      have U35 : updO us 38 (.string ⟨x.toArray⟩) 35 = us 35 := upd_otherO (by decide)
      have U36 : updO us 38 (.string ⟨x.toArray⟩) 36 = us 36 := upd_otherO (by decide)
      have U37 : updO us 38 (.string ⟨x.toArray⟩) 37 = us 37 := upd_otherO (by decide)
      have U38 : updO us 38 (.string ⟨x.toArray⟩) 38 = (.string ⟨x.toArray⟩) := upd_sameO _ _ _
      have U39 : updO us 38 (.string ⟨x.toArray⟩) 39 = us 39 := upd_otherO (by decide)
      have U40 : updO us 38 (.string ⟨x.toArray⟩) 40 = us 40 := upd_otherO (by decide)
      have U41 : updO us 38 (.string ⟨x.toArray⟩) 41 = us 41 := upd_otherO (by decide)
      have U42 : updO us 38 (.string ⟨x.toArray⟩) 42 = us 42 := upd_otherO (by decide)
      have U43 : updO us 38 (.string ⟨x.toArray⟩) 43 = us 43 := upd_otherO (by decide)
      have U44 : updO us 38 (.string ⟨x.toArray⟩) 44 = us 44 := upd_otherO (by decide)
      refine wpOp_step rfl (fun K hK => ?_)
      simp only [frO, e0, e3, e6]
      go_simp
      refine hK _ _ ⟨updO us 38 (.string ⟨x.toArray⟩), by simp [frO, updO, e0, e3, e6], { u0 := (U0.trans I.u0), u3 := (U1.trans I.u3), u6 := (U5.trans I.u6), bel := (I.bel), o1 := (cO U34 I.o1 D1), o2 := (cO U35 I.o2 D2), o3 := (cO U36 I.o3 D3), o5 := (fun _ => U38), o8 := (cO U41 I.o8 D8), o9 := (cO U42 I.o9 D9), o10 := (cO U43 I.o10 D10), o6 := (fun h0 h1 => by rw [U39]; exact I.o6 (D6.symm.trans h0) (D7.symm.trans h1)), r0 := (fun h0 h1 => by rw [U33]; exact I.r0 (D0.symm.trans h0) (D4.symm.trans h1)), r4 := (fun h0 h1 => by rw [U37]; exact I.r4 (D4.symm.trans h0) (D7.symm.trans h1)), r7 := (fun h0 h1 => by rw [U40]; exact I.r7 (D7.symm.trans h0) (D11.symm.trans h1)), r11 := (fun h0 => by rw [U44]; exact I.r11 (D11.symm.trans h0)), s0 := (fun h0 h1 h2 h3 => by rw [U33, U39]; exact I.s0 (D0.symm.trans h0) (D4.symm.trans h1) (D6.symm.trans h2) (D7.symm.trans h3)), s4 := (fun h0 h1 h2 => by rw [U37, U39]; exact I.s4 (D4.symm.trans h0) (D7.symm.trans h1) (D6.symm.trans h2)), o12 := (fun h => by rw [U4, U44, D11]; exact I.o12 (D12.symm.trans h)), i7 := (fun h => D4.trans (I.i7 (D7.symm.trans h))), i11 := (fun h => D7.trans (I.i11 (D11.symm.trans h))) }⟩
     ·
      skip
      have D0 : (d.setIfInBounds 6 true).getD 0 false = d.getD 0 false := getD_set_ne false (by decide)
      have D1 : (d.setIfInBounds 6 true).getD 1 false = d.getD 1 false := getD_set_ne false (by decide)
      have D2 : (d.setIfInBounds 6 true).getD 2 false = d.getD 2 false := getD_set_ne false (by decide)
      have D3 : (d.setIfInBounds 6 true).getD 3 false = d.getD 3 false := getD_set_ne false (by decide)
      have D4 : (d.setIfInBounds 6 true).getD 4 false = d.getD 4 false := getD_set_ne false (by decide)
      have D5 : (d.setIfInBounds 6 true).getD 5 false = d.getD 5 false := getD_set_ne false (by decide)
      have D6 : (d.setIfInBounds 6 true).getD 6 false = true := getD_set_sameO hun
      have D7 : (d.setIfInBounds 6 true).getD 7 false = d.getD 7 false := getD_set_ne false (by decide)
      have D8 : (d.setIfInBounds 6 true).getD 8 false = d.getD 8 false := getD_set_ne false (by decide)
      have D9 : (d.setIfInBounds 6 true).getD 9 false = d.getD 9 false := getD_set_ne false (by decide)
      have D10 : (d.setIfInBounds 6 true).getD 10 false = d.getD 10 false := getD_set_ne false (by decide)
      have D11 : (d.setIfInBounds 6 true).getD 11 false = d.getD 11 false := getD_set_ne false (by decide)
      have D12 : (d.setIfInBounds 6 true).getD 12 false = d.getD 12 false := getD_set_ne false (by decide)
      have e37 := I.o5 (hall ⟨5, .data⟩ (by simp) rfl)
      have U0 : updO us 39 (.slice (some ⟨W.heap.size, 0, none⟩) 1 1) 0 = us 0 := upd_otherO (by decide)
      have U1 : updO us 39 (.slice (some ⟨W.heap.size, 0, none⟩) 1 1) 1 = us 1 := upd_otherO (by decide)
      have U5 : updO us 39 (.slice (some ⟨W.heap.size, 0, none⟩) 1 1) 5 = us 5 := upd_otherO (by decide)
      have U4 : updO us 39 (.slice (some ⟨W.heap.size, 0, none⟩) 1 1) 4 = us 4 := upd_otherO (by decide)
      have U33 : updO us 39 (.slice (some ⟨W.heap.size, 0, none⟩) 1 1) 33 = us 33 := upd_otherO (by decide)
      have U34 : updO us 39 (.slice (some ⟨W.heap.size, 0, none⟩) 1 1) 34 = us 34 := upd_otherO (by decide)
      have U35 : updO us 39 (.slice (some ⟨W.heap.size, 0, none⟩) 1 1) 35 = us 35 := upd_otherO (by decide)
      have U36 : updO us 39 (.slice (some ⟨W.heap.size, 0, none⟩) 1 1) 36 = us 36 := upd_otherO (by decide)
      have U37 : updO us 39 (.slice (some ⟨W.heap.size, 0, none⟩) 1 1) 37 = us 37 := upd_otherO (by decide)
      have U38 : updO us 39 (.slice (some ⟨W.heap.size, 0, none⟩) 1 1) 38 = us 38 := upd_otherO (by decide)
      have U39 : updO us 39 (.slice (some ⟨W.heap.size, 0, none⟩) 1 1) 39 = (.slice (some ⟨W.heap.size, 0, none⟩) 1 1) := upd_sameO _ _ _
      have U40 : updO us 39 (.slice (some ⟨W.heap.size, 0, none⟩) 1 1) 40 = us 40 := upd_otherO (by decide)
      have U41 : updO us 39 (.slice (some ⟨W.heap.size, 0, none⟩) 1 1) 41 = us 41 := upd_otherO (by decide)
      have U42 : updO us 39 (.slice (some ⟨W.heap.size, 0, none⟩) 1 1) 42 = us 42 := upd_otherO (by decide)
      have U43 : updO us 39 (.slice (some ⟨W.heap.size, 0, none⟩) 1 1) 43 = us 43 := upd_otherO (by decide)
      have U44 : updO us 39 (.slice (some ⟨W.heap.size, 0, none⟩) 1 1) 44 = us 44 := upd_otherO (by decide)
      refine wpOp_step rfl (fun K hK => ?_)
      simp only [frO, e0, e3, e6, e37]
      go_simp
      refine hK _ _ ⟨updO us 39 (.slice (some ⟨W.heap.size, 0, none⟩) 1 1), by simp [frO, updO, e0, e3, e6, e37], { u0 := (U0.trans I.u0), u3 := (U1.trans I.u3), u6 := (U5.trans I.u6), bel := (I.bel.alloc hsz _), o1 := (cO U34 I.o1 D1), o2 := (cO U35 I.o2 D2), o3 := (cO U36 I.o3 D3), o5 := (cO U38 I.o5 D5), o8 := (cO U41 I.o8 D8), o9 := (cO U42 I.o9 D9), o10 := (cO U43 I.o10 D10), o6 := (fun _ _ => by rw [U39]; exact ⟨_, rfl, heap_alloc_new W _, hsz⟩), r0 := (fun h0 h1 => by rw [U33]; exact (I.r0 (D0.symm.trans h0) (D4.symm.trans h1)).below (below_alloc _ _)), r4 := (fun h0 h1 => by rw [U37]; exact (I.r4 (D4.symm.trans h0) (D7.symm.trans h1)).below (below_alloc _ _)), r7 := (fun h0 h1 => by rw [U40]; exact (I.r7 (D7.symm.trans h0) (D11.symm.trans h1)).below (below_alloc _ _)), r11 := (fun h0 => by rw [U44]; exact (I.r11 (D11.symm.trans h0)).below (below_alloc _ _)), s0 := (fun h0 h1 h2 h3 => by rw [U33, U39]; exact sep_ltO fun k hk => (I.r0 (D0.symm.trans h0) (D4.symm.trans h1)).lt hk), s4 := (fun h0 h1 h2 => by rw [U37, U39]; exact sep_ltO fun k hk => (I.r4 (D4.symm.trans h0) (D7.symm.trans h1)).lt hk), o12 := (fun h => by rw [U4, U44, D11]; exact I.o12 (D12.symm.trans h)), i7 := (fun h => D4.trans (I.i7 (D7.symm.trans h))), i11 := (fun h => D7.trans (I.i11 (D11.symm.trans h))) }⟩
     ·
      skip
      have D0 : (d.setIfInBounds 7 true).getD 0 false = d.getD 0 false := getD_set_ne false (by decide)
      have D1 : (d.setIfInBounds 7 true).getD 1 false = d.getD 1 false := getD_set_ne false (by decide)
      have D2 : (d.setIfInBounds 7 true).getD 2 false = d.getD 2 false := getD_set_ne false (by decide)
      have D3 : (d.setIfInBounds 7 true).getD 3 false = d.getD 3 false := getD_set_ne false (by decide)
      have D4 : (d.setIfInBounds 7 true).getD 4 false = d.getD 4 false := getD_set_ne false (by decide)
      have D5 : (d.setIfInBounds 7 true).getD 5 false = d.getD 5 false := getD_set_ne false (by decide)
      have D6 : (d.setIfInBounds 7 true).getD 6 false = d.getD 6 false := getD_set_ne false (by decide)
      have D7 : (d.setIfInBounds 7 true).getD 7 false = true := getD_set_sameO hun
      have D8 : (d.setIfInBounds 7 true).getD 8 false = d.getD 8 false := getD_set_ne false (by decide)
      have D9 : (d.setIfInBounds 7 true).getD 9 false = d.getD 9 false := getD_set_ne false (by decide)
      have D10 : (d.setIfInBounds 7 true).getD 10 false = d.getD 10 false := getD_set_ne false (by decide)
      have D11 : (d.setIfInBounds 7 true).getD 11 false = d.getD 11 false := getD_set_ne false (by decide)
      have D12 : (d.setIfInBounds 7 true).getD 12 false = d.getD 12 false := getD_set_ne false (by decide)
      have h44 := hall ⟨4, .data⟩ (by simp) rfl
      obtain ⟨B, e38, hRB⟩ := (I.o6 (hall ⟨6, .data⟩ (by simp) rfl) (getD_tfO hun)).row
      have hRow := I.r4 (hall ⟨4, .data⟩ (by simp) rfl) (getD_tfO hun)
      refine wpOp_append_ptyO rfl rfl (.tmp 37) (.tmp 39) rfl wq.heap.size (us 37) ((ps.take ps.length)) rfl hRow (some ⟨B, 0, none⟩) 1 [x] e38 hRB (.inr ⟨_, _, rfl⟩) (by simp [hl1, hl3] <;> omega) hsz ?_
      intro v W2 hR2 hB hg hv
      have U0 : updO us 40 (v) 0 = us 0 := upd_otherO (by decide)
      have U1 : updO us 40 (v) 1 = us 1 := upd_otherO (by decide)
      have U5 : updO us 40 (v) 5 = us 5 := upd_otherO (by decide)
      have U4 : updO us 40 (v) 4 = us 4 := upd_otherO (by decide)
      have U33 : updO us 40 (v) 33 = us 33 := upd_otherO (by decide)
      have U34 : updO us 40 (v) 34 = us 34 := upd_otherO (by decide)
      have U35 : updO us 40 (v) 35 = us 35 := upd_otherO (by decide)
      have U36 : updO us 40 (v) 36 = us 36 := upd_otherO (by decide)
      have U37 : updO us 40 (v) 37 = us 37 := upd_otherO (by decide)
      have U38 : updO us 40 (v) 38 = us 38 := upd_otherO (by decide)
      have U39 : updO us 40 (v) 39 = us 39 := upd_otherO (by decide)
      have U40 : updO us 40 (v) 40 = (v) := upd_sameO _ _ _
      have U41 : updO us 40 (v) 41 = us 41 := upd_otherO (by decide)
      have U42 : updO us 40 (v) 42 = us 42 := upd_otherO (by decide)
      have U43 : updO us 40 (v) 43 = us 43 := upd_otherO (by decide)
      have U44 : updO us 40 (v) 44 = us 44 := upd_otherO (by decide)
      refine ⟨updO us 40 v, by simp [frO, updO, Act.put], { u0 := (U0.trans I.u0), u3 := (U1.trans I.u3), u6 := (U5.trans I.u6), bel := (I.bel.trans hB), o1 := (cO U34 I.o1 D1), o2 := (cO U35 I.o2 D2), o3 := (cO U36 I.o3 D3), o5 := (cO U38 I.o5 D5), o8 := (cO U41 I.o8 D8), o9 := (cO U42 I.o9 D9), o10 := (cO U43 I.o10 D10), o6 := (fun h0 h1 => by rw [D7] at h1; cases h1), r0 := (fun h0 h1 => absurd h44 (by rw [D4.symm.trans h1]; exact Bool.false_ne_true)), r4 := (fun h0 h1 => by rw [D7] at h1; cases h1), r7 := (fun _ _ => by rw [U40]; exact hR2), r11 := (fun h0 => absurd (I.i11 (D11.symm.trans h0)) (by rw [getD_tfO hun]; exact Bool.false_ne_true)), s0 := (fun h0 h1 h2 h3 => by rw [D7] at h3; cases h3), s4 := (fun h0 h1 h2 => by rw [D7] at h1; cases h1), o12 := (fun h => by rw [U4, U44, D11]; exact I.o12 (D12.symm.trans h)), i7 := (fun _ => D4.trans h44), i11 := (fun _ => D7) }⟩
     ·
      skip
      have D0 : (d.setIfInBounds 8 true).getD 0 false = d.getD 0 false := getD_set_ne false (by decide)
      have D1 : (d.setIfInBounds 8 true).getD 1 false = d.getD 1 false := getD_set_ne false (by decide)
      have D2 : (d.setIfInBounds 8 true).getD 2 false = d.getD 2 false := getD_set_ne false (by decide)
      have D3 : (d.setIfInBounds 8 true).getD 3 false = d.getD 3 false := getD_set_ne false (by decide)
      have D4 : (d.setIfInBounds 8 true).getD 4 false = d.getD 4 false := getD_set_ne false (by decide)
      have D5 : (d.setIfInBounds 8 true).getD 5 false = d.getD 5 false := getD_set_ne false (by decide)
      have D6 : (d.setIfInBounds 8 true).getD 6 false = d.getD 6 false := getD_set_ne false (by decide)
      have D7 : (d.setIfInBounds 8 true).getD 7 false = d.getD 7 false := getD_set_ne false (by decide)
      have D8 : (d.setIfInBounds 8 true).getD 8 false = true := getD_set_sameO hun
      have D9 : (d.setIfInBounds 8 true).getD 9 false = d.getD 9 false := getD_set_ne false (by decide)
      have D10 : (d.setIfInBounds 8 true).getD 10 false = d.getD 10 false := getD_set_ne false (by decide)
      have D11 : (d.setIfInBounds 8 true).getD 11 false = d.getD 11 false := getD_set_ne false (by decide)
      have D12 : (d.setIfInBounds 8 true).getD 12 false = d.getD 12 false := getD_set_ne false (by decide)
      have U0 : updO us 41 (.slice (some ⟨g, 0, none⟩) ps.length c) 0 = us 0 := upd_otherO (by decide)
      have U1 : updO us 41 (.slice (some ⟨g, 0, none⟩) ps.length c) 1 = us 1 := upd_otherO (by decide)
      have U5 : updO us 41 (.slice (some ⟨g, 0, none⟩) ps.length c) 5 = us 5 := upd_otherO (by decide)
      have U4 : updO us 41 (.slice (some ⟨g, 0, none⟩) ps.length c) 4 = us 4 := upd_otherO (by decide)
      have U33 : updO us 41 (.slice (some ⟨g, 0, none⟩) ps.length c) 33 = us 33 := upd_otherO (by decide)
      have U34 : updO us 41 (.slice (some ⟨g, 0, none⟩) ps.length c) 34 = us 34 := upd_otherO (by decide)
      have U35 : updO us 41 (.slice (some ⟨g, 0, none⟩) ps.length c) 35 = us 35 := upd_otherO (by decide)
      have U36 : updO us 41 (.slice (some ⟨g, 0, none⟩) ps.length c) 36 = us 36 := upd_otherO (by decide)
      have U37 : updO us 41 (.slice (some ⟨g, 0, none⟩) ps.length c) 37 = us 37 := upd_otherO (by decide)
      have U38 : updO us 41 (.slice (some ⟨g, 0, none⟩) ps.length c) 38 = us 38 := upd_otherO (by decide)
      have U39 : updO us 41 (.slice (some ⟨g, 0, none⟩) ps.length c) 39 = us 39 := upd_otherO (by decide)
      have U40 : updO us 41 (.slice (some ⟨g, 0, none⟩) ps.length c) 40 = us 40 := upd_otherO (by decide)
      have U41 : updO us 41 (.slice (some ⟨g, 0, none⟩) ps.length c) 41 = (.slice (some ⟨g, 0, none⟩) ps.length c) := upd_sameO _ _ _
      have U42 : updO us 41 (.slice (some ⟨g, 0, none⟩) ps.length c) 42 = us 42 := upd_otherO (by decide)
      have U43 : updO us 41 (.slice (some ⟨g, 0, none⟩) ps.length c) 43 = us 43 := upd_otherO (by decide)
      have U44 : updO us 41 (.slice (some ⟨g, 0, none⟩) ps.length c) 44 = us 44 := upd_otherO (by decide)
      refine wpOp_step rfl (fun K hK => ?_)
      simp only [frO, e0, e3, e6]
      go_simp
      refine hK _ _ ⟨updO us 41 (.slice (some ⟨g, 0, none⟩) ps.length c), by simp [frO, updO, e0, e3, e6], { u0 := (U0.trans I.u0), u3 := (U1.trans I.u3), u6 := (U5.trans I.u6), bel := (I.bel), o1 := (cO U34 I.o1 D1), o2 := (cO U35 I.o2 D2), o3 := (cO U36 I.o3 D3), o5 := (cO U38 I.o5 D5), o8 := (fun _ => U41), o9 := (cO U42 I.o9 D9), o10 := (cO U43 I.o10 D10), o6 := (fun h0 h1 => by rw [U39]; exact I.o6 (D6.symm.trans h0) (D7.symm.trans h1)), r0 := (fun h0 h1 => by rw [U33]; exact I.r0 (D0.symm.trans h0) (D4.symm.trans h1)), r4 := (fun h0 h1 => by rw [U37]; exact I.r4 (D4.symm.trans h0) (D7.symm.trans h1)), r7 := (fun h0 h1 => by rw [U40]; exact I.r7 (D7.symm.trans h0) (D11.symm.trans h1)), r11 := (fun h0 => by rw [U44]; exact I.r11 (D11.symm.trans h0)), s0 := (fun h0 h1 h2 h3 => by rw [U33, U39]; exact I.s0 (D0.symm.trans h0) (D4.symm.trans h1) (D6.symm.trans h2) (D7.symm.trans h3)), s4 := (fun h0 h1 h2 => by rw [U37, U39]; exact I.s4 (D4.symm.trans h0) (D7.symm.trans h1) (D6.symm.trans h2)), o12 := (fun h => by rw [U4, U44, D11]; exact I.o12 (D12.symm.trans h)), i7 := (fun h => D4.trans (I.i7 (D7.symm.trans h))), i11 := (fun h => D7.trans (I.i11 (D11.symm.trans h))) }⟩
     ·
      skip
      have D0 : (d.setIfInBounds 9 true).getD 0 false = d.getD 0 false := getD_set_ne false (by decide)
      have D1 : (d.setIfInBounds 9 true).getD 1 false = d.getD 1 false := getD_set_ne false (by decide)
      have D2 : (d.setIfInBounds 9 true).getD 2 false = d.getD 2 false := getD_set_ne false (by decide)
      have D3 : (d.setIfInBounds 9 true).getD 3 false = d.getD 3 false := getD_set_ne false (by decide)
      have D4 : (d.setIfInBounds 9 true).getD 4 false = d.getD 4 false := getD_set_ne false (by decide)
      have D5 : (d.setIfInBounds 9 true).getD 5 false = d.getD 5 false := getD_set_ne false (by decide)
      have D6 : (d.setIfInBounds 9 true).getD 6 false = d.getD 6 false := getD_set_ne false (by decide)
      have D7 : (d.setIfInBounds 9 true).getD 7 false = d.getD 7 false := getD_set_ne false (by decide)
      have D8 : (d.setIfInBounds 9 true).getD 8 false = d.getD 8 false := getD_set_ne false (by decide)
      have D9 : (d.setIfInBounds 9 true).getD 9 false = true := getD_set_sameO hun
      have D10 : (d.setIfInBounds 9 true).getD 10 false = d.getD 10 false := getD_set_ne false (by decide)
      have D11 : (d.setIfInBounds 9 true).getD 11 false = d.getD 11 false := getD_set_ne false (by decide)
      have D12 : (d.setIfInBounds 9 true).getD 12 false = d.getD 12 false := getD_set_ne false (by decide)
      have U0 : updO us 42 (.int .i64 ((ps.length : Nat) : Int)) 0 = us 0 := upd_otherO (by decide)
      have U1 : updO us 42 (.int .i64 ((ps.length : Nat) : Int)) 1 = us 1 := upd_otherO (by decide)
      have U5 : updO us 42 (.int .i64 ((ps.length : Nat) : Int)) 5 = us 5 := upd_otherO (by decide)
      have U4 : updO us 42 (.int .i64 ((ps.length : Nat) : Int)) 4 = us 4 := upd_otherO (by decide)
      have U33 : updO us 42 (.int .i64 ((ps.length : Nat) : Int)) 33 = us 33 := upd_otherO (by decide)
      have U34 : updO us 42 (.int .i64 ((ps.length : Nat) : Int)) 34 = us 34 := upd_otherO (by decide)
      have U35 : updO us 42 (.int .i64 ((ps.length : Nat) : Int)) 35 = us 35 := upd_otherO (by decide)
      have U36 : updO us 42 (.int .i64 ((ps.length : Nat) : Int)) 36 = us 36 := upd_otherO (by decide)
      have U37 : updO us 42 (.int .i64 ((ps.length : Nat) : Int)) 37 = us 37 := upd_otherO (by decide)
      have U38 : updO us 42 (.int .i64 ((ps.length : Nat) : Int)) 38 = us 38 := upd_otherO (by decide)
      have U39 : updO us 42 (.int .i64 ((ps.length : Nat) : Int)) 39 = us 39 := upd_otherO (by decide)
      have U40 : updO us 42 (.int .i64 ((ps.length : Nat) : Int)) 40 = us 40 := upd_otherO (by decide)
      have U41 : updO us 42 (.int .i64 ((ps.length : Nat) : Int)) 41 = us 41 := upd_otherO (by decide)
      have U42 : updO us 42 (.int .i64 ((ps.length : Nat) : Int)) 42 = (.int .i64 ((ps.length : Nat) : Int)) := upd_sameO _ _ _
      have U43 : updO us 42 (.int .i64 ((ps.length : Nat) : Int)) 43 = us 43 := upd_otherO (by decide)
      have U44 : updO us 42 (.int .i64 ((ps.length : Nat) : Int)) 44 = us 44 := upd_otherO (by decide)
      refine wpOp_step rfl (fun K hK => ?_)
      simp only [frO, e0, e3, e6]
      go_simp
      refine hK _ _ ⟨updO us 42 (.int .i64 ((ps.length : Nat) : Int)), by simp [frO, updO, e0, e3, e6], { u0 := (U0.trans I.u0), u3 := (U1.trans I.u3), u6 := (U5.trans I.u6), bel := (I.bel), o1 := (cO U34 I.o1 D1), o2 := (cO U35 I.o2 D2), o3 := (cO U36 I.o3 D3), o5 := (cO U38 I.o5 D5), o8 := (cO U41 I.o8 D8), o9 := (fun _ => U42), o10 := (cO U43 I.o10 D10), o6 := (fun h0 h1 => by rw [U39]; exact I.o6 (D6.symm.trans h0) (D7.symm.trans h1)), r0 := (fun h0 h1 => by rw [U33]; exact I.r0 (D0.symm.trans h0) (D4.symm.trans h1)), r4 := (fun h0 h1 => by rw [U37]; exact I.r4 (D4.symm.trans h0) (D7.symm.trans h1)), r7 := (fun h0 h1 => by rw [U40]; exact I.r7 (D7.symm.trans h0) (D11.symm.trans h1)), r11 := (fun h0 => by rw [U44]; exact I.r11 (D11.symm.trans h0)), s0 := (fun h0 h1 h2 h3 => by rw [U33, U39]; exact I.s0 (D0.symm.trans h0) (D4.symm.trans h1) (D6.symm.trans h2) (D7.symm.trans h3)), s4 := (fun h0 h1 h2 => by rw [U37, U39]; exact I.s4 (D4.symm.trans h0) (D7.symm.trans h1) (D6.symm.trans h2)), o12 := (fun h => by rw [U4, U44, D11]; exact I.o12 (D12.symm.trans h)), i7 := (fun h => D4.trans (I.i7 (D7.symm.trans h))), i11 := (fun h => D7.trans (I.i11 (D11.symm.trans h))) }⟩
     ·
      skip
      have D0 : (d.setIfInBounds 10 true).getD 0 false = d.getD 0 false := getD_set_ne false (by decide)
      have D1 : (d.setIfInBounds 10 true).getD 1 false = d.getD 1 false := getD_set_ne false (by decide)
      have D2 : (d.setIfInBounds 10 true).getD 2 false = d.getD 2 false := getD_set_ne false (by decide)
      have D3 : (d.setIfInBounds 10 true).getD 3 false = d.getD 3 false := getD_set_ne false (by decide)
      have D4 : (d.setIfInBounds 10 true).getD 4 false = d.getD 4 false := getD_set_ne false (by decide)
      have D5 : (d.setIfInBounds 10 true).getD 5 false = d.getD 5 false := getD_set_ne false (by decide)
      have D6 : (d.setIfInBounds 10 true).getD 6 false = d.getD 6 false := getD_set_ne false (by decide)
      have D7 : (d.setIfInBounds 10 true).getD 7 false = d.getD 7 false := getD_set_ne false (by decide)
      have D8 : (d.setIfInBounds 10 true).getD 8 false = d.getD 8 false := getD_set_ne false (by decide)
      have D9 : (d.setIfInBounds 10 true).getD 9 false = d.getD 9 false := getD_set_ne false (by decide)
      have D10 : (d.setIfInBounds 10 true).getD 10 false = true := getD_set_sameO hun
      have D11 : (d.setIfInBounds 10 true).getD 11 false = d.getD 11 false := getD_set_ne false (by decide)
      have D12 : (d.setIfInBounds 10 true).getD 12 false = d.getD 12 false := getD_set_ne false (by decide)
      have e40 := I.o8 (hall ⟨8, .data⟩ (by simp) rfl)
      have e41 := I.o9 (hall ⟨9, .data⟩ (by simp) rfl)
      have U0 : updO us 43 (.slice (some ⟨g, ps.length, none⟩) (ps.length - ps.length) (c - ps.length)) 0 = us 0 := upd_otherO (by decide)
      have U1 : updO us 43 (.slice (some ⟨g, ps.length, none⟩) (ps.length - ps.length) (c - ps.length)) 1 = us 1 := upd_otherO (by decide)
      have U5 : updO us 43 (.slice (some ⟨g, ps.length, none⟩) (ps.length - ps.length) (c - ps.length)) 5 = us 5 := upd_otherO (by decide)
      have U4 : updO us 43 (.slice (some ⟨g, ps.length, none⟩) (ps.length - ps.length) (c - ps.length)) 4 = us 4 := upd_otherO (by decide)
      have U33 : updO us 43 (.slice (some ⟨g, ps.length, none⟩) (ps.length - ps.length) (c - ps.length)) 33 = us 33 := upd_otherO (by decide)
      have U34 : updO us 43 (.slice (some ⟨g, ps.length, none⟩) (ps.length - ps.length) (c - ps.length)) 34 = us 34 := upd_otherO (by decide)
      have U35 : updO us 43 (.slice (some ⟨g, ps.length, none⟩) (ps.length - ps.length) (c - ps.length)) 35 = us 35 := upd_otherO (by decide)
      have U36 : updO us 43 (.slice (some ⟨g, ps.length, none⟩) (ps.length - ps.length) (c - ps.length)) 36 = us 36 := upd_otherO (by decide)
      have U37 : updO us 43 (.slice (some ⟨g, ps.length, none⟩) (ps.length - ps.length) (c - ps.length)) 37 = us 37 := upd_otherO (by decide)
      have U38 : updO us 43 (.slice (some ⟨g, ps.length, none⟩) (ps.length - ps.length) (c - ps.length)) 38 = us 38 := upd_otherO (by decide)
      have U39 : updO us 43 (.slice (some ⟨g, ps.length, none⟩) (ps.length - ps.length) (c - ps.length)) 39 = us 39 := upd_otherO (by decide)
      have U40 : updO us 43 (.slice (some ⟨g, ps.length, none⟩) (ps.length - ps.length) (c - ps.length)) 40 = us 40 := upd_otherO (by decide)
      have U41 : updO us 43 (.slice (some ⟨g, ps.length, none⟩) (ps.length - ps.length) (c - ps.length)) 41 = us 41 := upd_otherO (by decide)
      have U42 : updO us 43 (.slice (some ⟨g, ps.length, none⟩) (ps.length - ps.length) (c - ps.length)) 42 = us 42 := upd_otherO (by decide)
      have U43 : updO us 43 (.slice (some ⟨g, ps.length, none⟩) (ps.length - ps.length) (c - ps.length)) 43 = (.slice (some ⟨g, ps.length, none⟩) (ps.length - ps.length) (c - ps.length)) := upd_sameO _ _ _
      have U44 : updO us 43 (.slice (some ⟨g, ps.length, none⟩) (ps.length - ps.length) (c - ps.length)) 44 = us 44 := upd_otherO (by decide)
      refine wpOp_step rfl (fun K hK => ?_)
      simp only [frO, e0, e3, e6, e40, e41]
      go_simp
      try (rw [if_pos (by omega)]; go_simp)
      refine hK _ _ ⟨updO us 43 (.slice (some ⟨g, ps.length, none⟩) (ps.length - ps.length) (c - ps.length)), by simp [frO, updO, e0, e3, e6, e40, e41, e1s], { u0 := (U0.trans I.u0), u3 := (U1.trans I.u3), u6 := (U5.trans I.u6), bel := (I.bel), o1 := (cO U34 I.o1 D1), o2 := (cO U35 I.o2 D2), o3 := (cO U36 I.o3 D3), o5 := (cO U38 I.o5 D5), o8 := (cO U41 I.o8 D8), o9 := (cO U42 I.o9 D9), o10 := (fun _ => U43), o6 := (fun h0 h1 => by rw [U39]; exact I.o6 (D6.symm.trans h0) (D7.symm.trans h1)), r0 := (fun h0 h1 => by rw [U33]; exact I.r0 (D0.symm.trans h0) (D4.symm.trans h1)), r4 := (fun h0 h1 => by rw [U37]; exact I.r4 (D4.symm.trans h0) (D7.symm.trans h1)), r7 := (fun h0 h1 => by rw [U40]; exact I.r7 (D7.symm.trans h0) (D11.symm.trans h1)), r11 := (fun h0 => by rw [U44]; exact I.r11 (D11.symm.trans h0)), s0 := (fun h0 h1 h2 h3 => by rw [U33, U39]; exact I.s0 (D0.symm.trans h0) (D4.symm.trans h1) (D6.symm.trans h2) (D7.symm.trans h3)), s4 := (fun h0 h1 h2 => by rw [U37, U39]; exact I.s4 (D4.symm.trans h0) (D7.symm.trans h1) (D6.symm.trans h2)), o12 := (fun h => by rw [U4, U44, D11]; exact I.o12 (D12.symm.trans h)), i7 := (fun h => D4.trans (I.i7 (D7.symm.trans h))), i11 := (fun h => D7.trans (I.i11 (D11.symm.trans h))) }⟩
     ·
      skip
      have D0 : (d.setIfInBounds 11 true).getD 0 false = d.getD 0 false := getD_set_ne false (by decide)
      have D1 : (d.setIfInBounds 11 true).getD 1 false = d.getD 1 false := getD_set_ne false (by decide)
      have D2 : (d.setIfInBounds 11 true).getD 2 false = d.getD 2 false := getD_set_ne false (by decide)
      have D3 : (d.setIfInBounds 11 true).getD 3 false = d.getD 3 false := getD_set_ne false (by decide)
      have D4 : (d.setIfInBounds 11 true).getD 4 false = d.getD 4 false := getD_set_ne false (by decide)
      have D5 : (d.setIfInBounds 11 true).getD 5 false = d.getD 5 false := getD_set_ne false (by decide)
      have D6 : (d.setIfInBounds 11 true).getD 6 false = d.getD 6 false := getD_set_ne false (by decide)
      have D7 : (d.setIfInBounds 11 true).getD 7 false = d.getD 7 false := getD_set_ne false (by decide)
      have D8 : (d.setIfInBounds 11 true).getD 8 false = d.getD 8 false := getD_set_ne false (by decide)
      have D9 : (d.setIfInBounds 11 true).getD 9 false = d.getD 9 false := getD_set_ne false (by decide)
      have D10 : (d.setIfInBounds 11 true).getD 10 false = d.getD 10 false := getD_set_ne false (by decide)
      have D11 : (d.setIfInBounds 11 true).getD 11 false = true := getD_set_sameO hun
      have D12 : (d.setIfInBounds 11 true).getD 12 false = d.getD 12 false := getD_set_ne false (by decide)
      have e42 := I.o10 (hall ⟨10, .data⟩ (by simp) rfl)
      have h77 := hall ⟨7, .data⟩ (by simp) rfl
      have hRow := I.r7 (hall ⟨7, .data⟩ (by simp) rfl) (getD_tfO hun)
      refine wpOp_append_ptyO rfl rfl (.tmp 40) (.tmp 43) rfl wq.heap.size (us 40) ((ps.take ps.length) ++ [x]) rfl hRow (some ⟨g, ps.length, none⟩) ((c - ps.length)) ((ps.drop ps.length)) (by show us 43 = _; rw [e42] <;> simp [hl3]) (q3.below I.bel) (.inr ⟨_, _, rfl⟩) (by simp [hl1, hl3] <;> omega) hsz ?_
      intro v W2 hR2 hB hg hv
      have U0 : updO us 44 (v) 0 = us 0 := upd_otherO (by decide)
      have U1 : updO us 44 (v) 1 = us 1 := upd_otherO (by decide)
      have U5 : updO us 44 (v) 5 = us 5 := upd_otherO (by decide)
      have U4 : updO us 44 (v) 4 = us 4 := upd_otherO (by decide)
      have U33 : updO us 44 (v) 33 = us 33 := upd_otherO (by decide)
      have U34 : updO us 44 (v) 34 = us 34 := upd_otherO (by decide)
      have U35 : updO us 44 (v) 35 = us 35 := upd_otherO (by decide)
      have U36 : updO us 44 (v) 36 = us 36 := upd_otherO (by decide)
      have U37 : updO us 44 (v) 37 = us 37 := upd_otherO (by decide)
      have U38 : updO us 44 (v) 38 = us 38 := upd_otherO (by decide)
      have U39 : updO us 44 (v) 39 = us 39 := upd_otherO (by decide)
      have U40 : updO us 44 (v) 40 = us 40 := upd_otherO (by decide)
      have U41 : updO us 44 (v) 41 = us 41 := upd_otherO (by decide)
      have U42 : updO us 44 (v) 42 = us 42 := upd_otherO (by decide)
      have U43 : updO us 44 (v) 43 = us 43 := upd_otherO (by decide)
      have U44 : updO us 44 (v) 44 = (v) := upd_sameO _ _ _
      refine ⟨updO us 44 v, by simp [frO, updO, Act.put], { u0 := (U0.trans I.u0), u3 := (U1.trans I.u3), u6 := (U5.trans I.u6), bel := (I.bel.trans hB), o1 := (cO U34 I.o1 D1), o2 := (cO U35 I.o2 D2), o3 := (cO U36 I.o3 D3), o5 := (cO U38 I.o5 D5), o8 := (cO U41 I.o8 D8), o9 := (cO U42 I.o9 D9), o10 := (cO U43 I.o10 D10), o6 := (fun h0 h1 => absurd h77 (by rw [D7.symm.trans h1]; exact Bool.false_ne_true)), r0 := (fun h0 h1 => absurd (I.i7 h77) (by rw [D4.symm.trans h1]; exact Bool.false_ne_true)), r4 := (fun h0 h1 => absurd h77 (by rw [D7.symm.trans h1]; exact Bool.false_ne_true)), r7 := (fun h0 h1 => by rw [D11] at h1; cases h1), r11 := (fun _ => by rw [U44]; exact hR2), s0 := (fun h0 h1 h2 h3 => by rw [U33, U39]; exact I.s0 (D0.symm.trans h0) (D4.symm.trans h1) (D6.symm.trans h2) (D7.symm.trans h3)), s4 := (fun h0 h1 h2 => by rw [U37, U39]; exact I.s4 (D4.symm.trans h0) (D7.symm.trans h1) (D6.symm.trans h2)), o12 := (fun h => absurd (I.o12 (D12.symm.trans h)).2 (by rw [getD_tfO hun]; exact Bool.false_ne_true)), i7 := (fun h => D4.trans (I.i7 (D7.symm.trans h))), i11 := (fun _ => D7.trans h77) }⟩
     ·
      skip
      have D0 : (d.setIfInBounds 12 true).getD 0 false = d.getD 0 false := getD_set_ne false (by decide)
      have D1 : (d.setIfInBounds 12 true).getD 1 false = d.getD 1 false := getD_set_ne false (by decide)
      have D2 : (d.setIfInBounds 12 true).getD 2 false = d.getD 2 false := getD_set_ne false (by decide)
      have D3 : (d.setIfInBounds 12 true).getD 3 false = d.getD 3 false := getD_set_ne false (by decide)
      have D4 : (d.setIfInBounds 12 true).getD 4 false = d.getD 4 false := getD_set_ne false (by decide)
      have D5 : (d.setIfInBounds 12 true).getD 5 false = d.getD 5 false := getD_set_ne false (by decide)
      have D6 : (d.setIfInBounds 12 true).getD 6 false = d.getD 6 false := getD_set_ne false (by decide)
      have D7 : (d.setIfInBounds 12 true).getD 7 false = d.getD 7 false := getD_set_ne false (by decide)
      have D8 : (d.setIfInBounds 12 true).getD 8 false = d.getD 8 false := getD_set_ne false (by decide)
      have D9 : (d.setIfInBounds 12 true).getD 9 false = d.getD 9 false := getD_set_ne false (by decide)
      have D10 : (d.setIfInBounds 12 true).getD 10 false = d.getD 10 false := getD_set_ne false (by decide)
      have D11 : (d.setIfInBounds 12 true).getD 11 false = d.getD 11 false := getD_set_ne false (by decide)
      have D12 : (d.setIfInBounds 12 true).getD 12 false = true := getD_set_sameO hun
      have h11 := hall ⟨11, .data⟩ (by simp) rfl
      have U0 : updO us 4 (us 44) 0 = us 0 := upd_otherO (by decide)
      have U1 : updO us 4 (us 44) 1 = us 1 := upd_otherO (by decide)
      have U5 : updO us 4 (us 44) 5 = us 5 := upd_otherO (by decide)
      have U4 : updO us 4 (us 44) 4 = (us 44) := upd_sameO _ _ _
      have U33 : updO us 4 (us 44) 33 = us 33 := upd_otherO (by decide)
      have U34 : updO us 4 (us 44) 34 = us 34 := upd_otherO (by decide)
      have U35 : updO us 4 (us 44) 35 = us 35 := upd_otherO (by decide)
      have U36 : updO us 4 (us 44) 36 = us 36 := upd_otherO (by decide)
      have U37 : updO us 4 (us 44) 37 = us 37 := upd_otherO (by decide)
      have U38 : updO us 4 (us 44) 38 = us 38 := upd_otherO (by decide)
      have U39 : updO us 4 (us 44) 39 = us 39 := upd_otherO (by decide)
      have U40 : updO us 4 (us 44) 40 = us 40 := upd_otherO (by decide)
      have U41 : updO us 4 (us 44) 41 = us 41 := upd_otherO (by decide)
      have U42 : updO us 4 (us 44) 42 = us 42 := upd_otherO (by decide)
      have U43 : updO us 4 (us 44) 43 = us 43 := upd_otherO (by decide)
      have U44 : updO us 4 (us 44) 44 = us 44 := upd_otherO (by decide)
      refine wpOp_step rfl (fun K hK => ?_)
      simp only [frO, e0, e3, e6]
      go_simp
      refine hK _ _ ⟨updO us 4 (us 44), by simp [frO, updO, e0, e3, e6], { u0 := (U0.trans I.u0), u3 := (U1.trans I.u3), u6 := (U5.trans I.u6), bel := (I.bel), o1 := (cO U34 I.o1 D1), o2 := (cO U35 I.o2 D2), o3 := (cO U36 I.o3 D3), o5 := (cO U38 I.o5 D5), o8 := (cO U41 I.o8 D8), o9 := (cO U42 I.o9 D9), o10 := (cO U43 I.o10 D10), o6 := (fun h0 h1 => by rw [U39]; exact I.o6 (D6.symm.trans h0) (D7.symm.trans h1)), r0 := (fun h0 h1 => by rw [U33]; exact I.r0 (D0.symm.trans h0) (D4.symm.trans h1)), r4 := (fun h0 h1 => by rw [U37]; exact I.r4 (D4.symm.trans h0) (D7.symm.trans h1)), r7 := (fun h0 h1 => by rw [U40]; exact I.r7 (D7.symm.trans h0) (D11.symm.trans h1)), r11 := (fun h0 => by rw [U44]; exact I.r11 (D11.symm.trans h0)), s0 := (fun h0 h1 h2 h3 => by rw [U33, U39]; exact I.s0 (D0.symm.trans h0) (D4.symm.trans h1) (D6.symm.trans h2) (D7.symm.trans h3)), s4 := (fun h0 h1 h2 => by rw [U37, U39]; exact I.s4 (D4.symm.trans h0) (D7.symm.trans h1) (D6.symm.trans h2)), o12 := (fun _ => ⟨by rw [U4, U44], by rw [D11]; exact h11⟩), i7 := (fun h => D4.trans (I.i7 (D7.symm.trans h))), i11 := (fun h => D7.trans (I.i11 (D11.symm.trans h))) }⟩
    ·
     intro d a W hd hall hI
     obtain ⟨us, rfl, I⟩ := hI
     have D : ∀ k, k < 13 -> d.getD k false = true := fun k hk => by
      have := hall k hk
      have hk2 : k < d.size := by rw [hd]; exact hk
      simp [hk2] at this ⊢; exact this
     obtain ⟨h7, h11⟩ := I.o12 (D 12 (by decide))
     obtain ⟨O, q, e43, hO⟩ := I.r11 h11
     have e7 := h7.trans e43
     have e3 := I.u3
     have hbel := I.bel
     rw [hjoin] at e7 hO
     clear I hall D h7 e43
     simp only [frO, e7]
     go_wp2_with fail
     go_ret
     exact HQ.out _ _ _ hO hbel
end Go.Proofs.YtjcklmhgjdmjoaaGreat
