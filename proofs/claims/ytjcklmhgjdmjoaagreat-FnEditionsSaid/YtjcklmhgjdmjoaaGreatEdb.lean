import Derived.Test.YtjcklmhgjdmjoaaGreatEda
import Derived.Test.YtjcklmhgjdmjoaaGreatMEdi
namespace Go.Proofs.YtjcklmhgjdmjoaaGreat
open Go.ChangeShapes Go.WideShapes Go.ChangeAt Go.RowKit
set_option linter.unusedVariables false
structure XTbl (w : World) (x : Edh) (e : Edn) : Prop where
 one : EdOne w x e
 txt : ∀ p ∈ e.cs, p.sz <= 1048600
 len : e.cs.length <= 1048590
theorem XTbl.below {w w' : World} {x : Edh} {e : Edn} (h : XTbl w x e) (hb : Below w.heap.size w w') : XTbl w' x e := ⟨⟨h.one.1, h.one.2.1, h.one.2.2.below hb⟩, h.txt, h.len⟩
theorem XTbl.tbl {w : World} {x : Edh} {e : Edn} (h : XTbl w x e) : CTbl w x.A e.cs := ⟨h.one.2.2, h.txt, h.len⟩
theorem lb_some {w : World} {A : Option Addr} {es : List Edn} (h : EdnR w A es) (hr : lbB es = true) : ∃ b off, A = some ⟨b, off, none⟩ := by
 obtain ⟨b, off, e, a, c, h1, _⟩ := h.at (k := 0) (by have := (lb_of hr).len; omega)
 exact ⟨b, off, h1⟩
set_option maxRecDepth 100000 in
set_option maxHeartbeats 4000000 in
theorem adds_s (A : Option Addr) (c : Nat) (es : List Edn) (x : Edh) (e : Edn) (w : World) (h : LTblC w A c es) (hx : XTbl w x e) :
  Calls Tryz.prog 17 #[.slice A es.length c, .agg #[.int .i64 x.y, .slice x.A x.n x.c]] w (NewEdnsC w (adR es e)) := by
 have kb := KeepN.new w x.y x.A x.n x.c
 have hn := h.len
 rcases Bool.eq_false_or_eq_true (lbB es) with hr | hr
 ·
  rcases Bool.eq_false_or_eq_true (rbB e.cs) with hv | hv
  ·
   obtain ⟨g, off, rfl⟩ := lb_some h.row hr
   obtain ⟨ps, p1, p2⟩ := ednR_hs h.row
   have := adds_s_ok g off c ps es x e w h.tbl p1 p2 hx.one hx.txt (by rw [p2.len]; exact h.cap) hr hv
   rw [p2.len] at this
   exact this
  ·
   have HT := Lib.hid (lbS_q (c := c) (h.tbl.below kb.bel) hr)
   have HV : Hid (∀ W, Below w.heap.size w W -> Calls Tryz.prog 30 #[.slice x.A x.n x.c] W (Gives W (.bool false))) := Lib.hid (fun W b => by
    rw [hx.one.2.1]; exact rbS_q (hx.tbl.below b) hv)
   have E := Lib.hid (@adR_no es e (by rw [hv, Bool.and_false]))
   clear h hv hx
   go_enter Tryz.func17, Tryz.ntmps17
   go_wp2_with (first
    | (go_at_call 46; refine HT.out.mono ?_; rintro e' w1 ⟨rfl, b1⟩; have kb1 := kb.step b1; have c0 := kb1.c0; have c1 := kb1.c1)
    | (go_at_call 30; refine (HV.out _ kb1.bel).mono ?_; rintro e' w2 ⟨rfl, b2⟩; have kb2 := kb1.step b2))
   go_ret2
   unfold NewEdnsC
   rw [E.out]
   exact ⟨none, 0, rfl, EdnO.nil _ _ _, kb2.bel⟩
 ·
  have HT := Lib.hid (lbS_q (c := c) (h.tbl.below kb.bel) hr)
  have E := Lib.hid (@adR_no es e (by rw [hr, Bool.false_and]))
  clear h hx
  go_enter Tryz.func17, Tryz.ntmps17
  go_wp2_with (go_at_call 46; refine HT.out.mono ?_; rintro e' w1 ⟨rfl, b1⟩)
  go_ret2
  unfold NewEdnsC
  rw [E.out]
  exact ⟨none, 0, rfl, EdnO.nil _ _ _, belowGo kb.bel b1⟩
set_option maxRecDepth 100000 in
set_option maxHeartbeats 8000000 in
theorem adds_wb (g off c : Nat) (ps : List Edh) (es : List Edn) (x : Edh) (e : Edn) (w : World) (h : LTbl w (some ⟨g, off, none⟩) es) (hR0 : EdhR w (some ⟨g, off, none⟩) ps) (hv : EdnV w ps es) (hx : XTbl w x e) (hcap : ps.length <= c) (hr : lbB es = true) (hxr : rbB e.cs = true) (hk : plcL es e.y = ps.length) (hkl : ps.length <= ps.length) :
  Calls Tryz.prog 16 #[.slice (some ⟨g, off, none⟩) ps.length ps.length, .agg #[.int .i64 x.y, .slice x.A x.n x.c]] w (NewEdnsC w (adR es e)) := by
 have kb := KeepN.new w x.y x.A x.n x.c
 have hlen := hv.len
 have hn : 1 <= ps.length /\ ps.length <= 6 := by have := (lb_of hr).len; omega
 obtain ⟨ht1, ht2, ht3, ht4⟩ := addL_tbl h.txt hx.txt hr hxr
 have HTX := Lib.hid ht1
 have HCS := Lib.hid ht2
 have HE1 := Lib.hid (@adR_ok es e hr hxr)
 have HE2 := Lib.hid (@adR_st es e hr hxr)
 have HT : Hid (Calls Tryz.prog 27 #[.slice (some ⟨g, off, none⟩) ps.length ps.length] (w.alloc (.cells #[.int .i64 x.y, .slice x.A x.n x.c] 42)) (Gives (w.alloc (.cells #[.int .i64 x.y, .slice x.A x.n x.c] 42)) (.bool true))) := Lib.hid (by have := lbI_q (c := ps.length) (h.below kb.bel) hr; rw [<- hlen] at this; exact this)
 have HV : Hid (∀ W, Below w.heap.size w W -> Calls Tryz.prog 32 #[.slice x.A x.n x.c] W (Gives W (.bool true))) := Lib.hid (fun W b => by
  have := isRb_i x.A x.c e.cs W (hx.tbl.below b)
  rw [hxr] at this
  rw [hx.one.2.1]; exact this)
 have HS : Hid (∀ W, Below w.heap.size w W -> ∃ f, Calls Tryz.prog 45 #[.slice (some ⟨g, off, none⟩) ps.length ps.length, .int .i64 x.y] W (Gives W (.tuple #[.int .i64 (ps.length : Int), .bool f]))) := Lib.hid (fun W b => ⟨hasL es e.y, by
  have := searchL_i (some ⟨g, off, none⟩) (ps.length) es e.y W (h.below b) hr
  rw [hk, <- hlen] at this
  rw [hx.one.1]; exact this⟩)
 obtain ⟨L, hL⟩ : ∃ L, L = ps.take ps.length ++ [x] ++ ps.drop ps.length := ⟨_, rfl⟩
 have HVK := Lib.hid (fun W (b : Below w.heap.size w W) => (by
  have := (((hv.below b).take ps.length).app (EdnV.single (hx.below b).one)).app ((hv.below b).drop ps.length)
  rw [hL]; unfold addL; rw [hk]; exact this : EdnV W L (addL es e)))
 have HLL : Hid (L.length = (addL es e).length) := Lib.hid (HVK.out w (Below.refl _ _)).len
 have HR0 := Lib.hid hR0
 have HJ := Lib.hid hL
 clear h hx hr hxr hR0 hv ht1 ht2 hlen hk hL
 go_enter Tryz.func16, Tryz.ntmps16
 go_wp2_with fail
 refine HT.out.mono ?_
 rintro e' w1 ⟨rfl, b1⟩
 have kb1 := kb.step b1
 have c0 := kb1.c0; have c1 := kb1.c1
 go_wp2_with fail
 refine (HV.out _ kb1.bel).mono ?_
 rintro e' w2 ⟨rfl, b2⟩
 have kb2 := kb1.step b2
 clear c0 c1
 have c0 := kb2.c0; have c1 := kb2.c1
 go_wp2_with fail
 obtain ⟨fb, hs⟩ := HS.out _ kb2.bel
 refine hs.mono ?_
 rintro e' w3 ⟨rfl, b3⟩
 have kb3 := kb2.step b3
 clear c0 c1 hs
 have c0 := kb3.c0; have c1 := kb3.c1
 have hR3 := HR0.out.below kb3.bel
 have q1 : EdhR w3 (some ⟨g, off, none⟩) (ps.take ps.length) := hR3.take ps.length
 have q3 : EdhR w3 (some ⟨g, off, none⟩) (ps.drop ps.length) := (by rw [show ps.drop ps.length = [] from List.drop_eq_nil_of_le (by omega)]; exact EdhR.none)
 have el1 : ((ps.take ps.length)).length = ps.length := by rw [List.length_take]; omega
 have el3 : ((ps.drop ps.length)).length = 0 := by rw [List.length_drop]; omega
 have hj : joinH [(some ⟨g, off, none⟩, ps.length, (ps.take ps.length)), (some ⟨w3.heap.size, 0, none⟩, 1, [x]), ((some ⟨g, off, none⟩), 0, (ps.drop ps.length))] = L := by rw [HJ.out]; simp [joinH]
 have HCQ := Lib.hid (concat_qH (g := w3.heap.size + 1) (n := 3) (c := 3) (L := L) ((pieces3H (w := w3) (A1 := some ⟨g, off, none⟩) (A3 := (some ⟨g, off, none⟩)) (c1 := ps.length) (c3 := 0) (n1 := ps.length) (n3 := 0) x q1 q3 (.inr ⟨_, _, rfl⟩) (.inr ⟨_, _, rfl⟩) el1 el3).below (Below.refl _ _).drew) rfl (by decide) hj (by rw [HLL.out]; exact ht3))
 have HBL := ((kb3.bel.alloc kb3.bel.size (.cells #[.int .i64 x.y, .slice x.A x.n x.c] 42)).alloc (Nat.le_trans kb3.bel.size (by simp)) (.cells #[.slice (some ⟨g, off, none⟩) ps.length (ps.length), .slice (some ⟨w3.heap.size, 0, none⟩) 1 1, .slice (some ⟨g, off, none⟩) 0 (0)] 36)).drew
 have HCP := Lib.hid (fun (O : Option Addr) (q : Nat) W (b : Below w.heap.size w W) (o : EdhR W O L) => (by
  obtain ⟨b', off', r, e1, _⟩ := o.at (k := 0) (by rw [HLL.out]; exact ht4)
  subst e1
  rw [HLL.out]
  exact (copyEds_i b' off' q L (addL es e) W o (HVK.out W b) ht3 ht4 HCS.out).mono fun e' w' kk => kk : Calls Tryz.prog 48 #[.slice O L.length q] W fun e' w' => ∃ g2 q2, e' = .returned (.slice (some ⟨g2, 0, none⟩) (addL es e).length q2) /\ EdnO w' W.heap.size w'.heap.size (some ⟨g2, 0, none⟩) (addL es e).length q2 (addL es e) /\ Below W.heap.size W w'))
 clear HT HV HS HR0 q1 q3 el1 el3 hj hR3 HJ
 go_wp2_with fail
 go_cut [8] from 25 to 35 (fun v wx => ∃ g2 q, v = .slice (some ⟨g2, 0, none⟩) (addL es e).length q /\ EdnO wx w.heap.size wx.heap.size (some ⟨g2, 0, none⟩) (addL es e).length q (addL es e) /\ Below w.heap.size w wx)
 case first =>
  go_region_with (first
   | (go_at_call 49; refine HCQ.out.mono ?_; rintro e' w4 ⟨O, q, rfl, ho, b4⟩; have HB4 := belowGo HBL b4)
   | (go_at_call 48; refine (HCP.out O q _ HB4 ho.row).mono ?_; rintro e' w5 ⟨g5, q5, rfl, o5, b5⟩))
  all_goals
   go_wp2_with fail
   go_meet
   exact ⟨g5, q5, rfl, o5.mono HB4.size (Nat.le_refl _), belowGo HB4 b5⟩
 case rest =>
  obtain ⟨g2, q, rfl, hO, hbx⟩ := hcut
  have tb : LTbl wc (some ⟨g2, 0, none⟩) (addL es e) := ⟨hO.reads, HTX.out, fun z hz => by have := HCS.out z hz; omega, by omega⟩
  rcases Bool.eq_false_or_eq_true (lbB (addL es e)) with hvv | hvv
  ·
   have E := Lib.hid (HE1.out hvv)
   have HLB := Lib.hid (lbI_q (c := q) tb hvv)
   have hO2 := Lib.hid hO
   have hbx2 := Lib.hid hbx
   clear tb hvv hO HE1 HE2 HVK HTX HCS hbx HCP HCQ HBL
   go_wp2_with (go_at_call 27; refine HLB.out.mono ?_; rintro e' w6 ⟨rfl, b6⟩)
   go_ret2
   unfold NewEdnsC
   rw [E.out]
   exact ⟨_, q, rfl, (hO2.out.below b6).mono (Nat.le_refl _) b6.size, belowGo hbx2.out b6⟩
  ·
   have E := Lib.hid (HE2.out hvv)
   have HLB := Lib.hid (lbI_q (c := q) tb hvv)
   have hbx2 := Lib.hid hbx
   clear tb hvv hO HE1 HE2 HVK HTX HCS hbx HCP HCQ HBL
   go_wp2_with (go_at_call 27; refine HLB.out.mono ?_; rintro e' w6 ⟨rfl, b6⟩)
   go_ret2
   unfold NewEdnsC
   rw [E.out]
   exact ⟨none, 0, rfl, EdnO.nil _ _ _, belowGo hbx2.out b6⟩
set_option maxRecDepth 100000 in
set_option maxHeartbeats 8000000 in
theorem adds_wc (g off c k : Nat) (ps : List Edh) (es : List Edn) (x : Edh) (e : Edn) (w : World) (h : LTbl w (some ⟨g, off, none⟩) es) (hR0 : EdhR w (some ⟨g, off, none⟩) ps) (hv : EdnV w ps es) (hx : XTbl w x e) (hcap : ps.length <= c) (hr : lbB es = true) (hxr : rbB e.cs = true) (hk : plcL es e.y = k) (hkl : k <= ps.length) (e1 : k ≠ c) (e2 : k < c) :
  Calls Tryz.prog 16 #[.slice (some ⟨g, off, none⟩) ps.length c, .agg #[.int .i64 x.y, .slice x.A x.n x.c]] w (NewEdnsC w (adR es e)) := by
 have kb := KeepN.new w x.y x.A x.n x.c
 have hlen := hv.len
 have hn : 1 <= ps.length /\ ps.length <= 6 := by have := (lb_of hr).len; omega
 obtain ⟨ht1, ht2, ht3, ht4⟩ := addL_tbl h.txt hx.txt hr hxr
 have HTX := Lib.hid ht1
 have HCS := Lib.hid ht2
 have HE1 := Lib.hid (@adR_ok es e hr hxr)
 have HE2 := Lib.hid (@adR_st es e hr hxr)
 have HT : Hid (Calls Tryz.prog 27 #[.slice (some ⟨g, off, none⟩) ps.length c] (w.alloc (.cells #[.int .i64 x.y, .slice x.A x.n x.c] 42)) (Gives (w.alloc (.cells #[.int .i64 x.y, .slice x.A x.n x.c] 42)) (.bool true))) := Lib.hid (by have := lbI_q (c := c) (h.below kb.bel) hr; rw [<- hlen] at this; exact this)
 have HV : Hid (∀ W, Below w.heap.size w W -> Calls Tryz.prog 32 #[.slice x.A x.n x.c] W (Gives W (.bool true))) := Lib.hid (fun W b => by
  have := isRb_i x.A x.c e.cs W (hx.tbl.below b)
  rw [hxr] at this
  rw [hx.one.2.1]; exact this)
 have HS : Hid (∀ W, Below w.heap.size w W -> ∃ f, Calls Tryz.prog 45 #[.slice (some ⟨g, off, none⟩) ps.length c, .int .i64 x.y] W (Gives W (.tuple #[.int .i64 (k : Int), .bool f]))) := Lib.hid (fun W b => ⟨hasL es e.y, by
  have := searchL_i (some ⟨g, off, none⟩) (c) es e.y W (h.below b) hr
  rw [hk, <- hlen] at this
  rw [hx.one.1]; exact this⟩)
 obtain ⟨L, hL⟩ : ∃ L, L = ps.take k ++ [x] ++ ps.drop k := ⟨_, rfl⟩
 have HVK := Lib.hid (fun W (b : Below w.heap.size w W) => (by
  have := (((hv.below b).take k).app (EdnV.single (hx.below b).one)).app ((hv.below b).drop k)
  rw [hL]; unfold addL; rw [hk]; exact this : EdnV W L (addL es e)))
 have HLL : Hid (L.length = (addL es e).length) := Lib.hid (HVK.out w (Below.refl _ _)).len
 have HR0 := Lib.hid hR0
 have HJ := Lib.hid hL
 clear h hx hr hxr hR0 hv ht1 ht2 hlen hk hL
 go_enter Tryz.func16, Tryz.ntmps16
 go_wp2_with fail
 refine HT.out.mono ?_
 rintro e' w1 ⟨rfl, b1⟩
 have kb1 := kb.step b1
 have c0 := kb1.c0; have c1 := kb1.c1
 go_wp2_with fail
 refine (HV.out _ kb1.bel).mono ?_
 rintro e' w2 ⟨rfl, b2⟩
 have kb2 := kb1.step b2
 clear c0 c1
 have c0 := kb2.c0; have c1 := kb2.c1
 go_wp2_with fail
 obtain ⟨fb, hs⟩ := HS.out _ kb2.bel
 refine hs.mono ?_
 rintro e' w3 ⟨rfl, b3⟩
 have kb3 := kb2.step b3
 clear c0 c1 hs
 have c0 := kb3.c0; have c1 := kb3.c1
 have hR3 := HR0.out.below kb3.bel
 have q1 : EdhR w3 (some ⟨g, off, none⟩) (ps.take k) := hR3.take k
 have q3 : EdhR w3 (some ⟨g, off + k * 2, none⟩) (ps.drop k) := hR3.drop k
 have el1 : ((ps.take k)).length = k := by rw [List.length_take]; omega
 have el3 : ((ps.drop k)).length = (ps.length - k) := by exact List.length_drop
 have hj : joinH [(some ⟨g, off, none⟩, c, (ps.take k)), (some ⟨w3.heap.size, 0, none⟩, 1, [x]), ((some ⟨g, off + k * 2, none⟩), (c - k), (ps.drop k))] = L := by rw [HJ.out]; simp [joinH]
 have HCQ := Lib.hid (concat_qH (g := w3.heap.size + 1) (n := 3) (c := 3) (L := L) ((pieces3H (w := w3) (A1 := some ⟨g, off, none⟩) (A3 := (some ⟨g, off + k * 2, none⟩)) (c1 := c) (c3 := (c - k)) (n1 := k) (n3 := (ps.length - k)) x q1 q3 (.inr ⟨_, _, rfl⟩) (.inr ⟨_, _, rfl⟩) el1 el3).below (Below.refl _ _).drew) rfl (by decide) hj (by rw [HLL.out]; exact ht3))
 have HBL := ((kb3.bel.alloc kb3.bel.size (.cells #[.int .i64 x.y, .slice x.A x.n x.c] 42)).alloc (Nat.le_trans kb3.bel.size (by simp)) (.cells #[.slice (some ⟨g, off, none⟩) k (c), .slice (some ⟨w3.heap.size, 0, none⟩) 1 1, .slice (some ⟨g, off + k * 2, none⟩) (ps.length - k) ((c - k))] 36)).drew
 have HCP := Lib.hid (fun (O : Option Addr) (q : Nat) W (b : Below w.heap.size w W) (o : EdhR W O L) => (by
  obtain ⟨b', off', r, e1, _⟩ := o.at (k := 0) (by rw [HLL.out]; exact ht4)
  subst e1
  rw [HLL.out]
  exact (copyEds_i b' off' q L (addL es e) W o (HVK.out W b) ht3 ht4 HCS.out).mono fun e' w' kk => kk : Calls Tryz.prog 48 #[.slice O L.length q] W fun e' w' => ∃ g2 q2, e' = .returned (.slice (some ⟨g2, 0, none⟩) (addL es e).length q2) /\ EdnO w' W.heap.size w'.heap.size (some ⟨g2, 0, none⟩) (addL es e).length q2 (addL es e) /\ Below W.heap.size W w'))
 clear HT HV HS HR0 q1 q3 el1 el3 hj hR3 HJ
 go_wp2_with fail
 go_cut [8] from 25 to 35 (fun v wx => ∃ g2 q, v = .slice (some ⟨g2, 0, none⟩) (addL es e).length q /\ EdnO wx w.heap.size wx.heap.size (some ⟨g2, 0, none⟩) (addL es e).length q (addL es e) /\ Below w.heap.size w wx)
 case first =>
  go_region_with (first
   | (go_at_call 49; refine HCQ.out.mono ?_; rintro e' w4 ⟨O, q, rfl, ho, b4⟩; have HB4 := belowGo HBL b4)
   | (go_at_call 48; refine (HCP.out O q _ HB4 ho.row).mono ?_; rintro e' w5 ⟨g5, q5, rfl, o5, b5⟩))
  all_goals
   go_wp2_with fail
   go_meet
   exact ⟨g5, q5, rfl, o5.mono HB4.size (Nat.le_refl _), belowGo HB4 b5⟩
 case rest =>
  obtain ⟨g2, q, rfl, hO, hbx⟩ := hcut
  have tb : LTbl wc (some ⟨g2, 0, none⟩) (addL es e) := ⟨hO.reads, HTX.out, fun z hz => by have := HCS.out z hz; omega, by omega⟩
  rcases Bool.eq_false_or_eq_true (lbB (addL es e)) with hvv | hvv
  ·
   have E := Lib.hid (HE1.out hvv)
   have HLB := Lib.hid (lbI_q (c := q) tb hvv)
   have hO2 := Lib.hid hO
   have hbx2 := Lib.hid hbx
   clear tb hvv hO HE1 HE2 HVK HTX HCS hbx HCP HCQ HBL
   go_wp2_with (go_at_call 27; refine HLB.out.mono ?_; rintro e' w6 ⟨rfl, b6⟩)
   go_ret2
   unfold NewEdnsC
   rw [E.out]
   exact ⟨_, q, rfl, (hO2.out.below b6).mono (Nat.le_refl _) b6.size, belowGo hbx2.out b6⟩
  ·
   have E := Lib.hid (HE2.out hvv)
   have HLB := Lib.hid (lbI_q (c := q) tb hvv)
   have hbx2 := Lib.hid hbx
   clear tb hvv hO HE1 HE2 HVK HTX HCS hbx HCP HCQ HBL
   go_wp2_with (go_at_call 27; refine HLB.out.mono ?_; rintro e' w6 ⟨rfl, b6⟩)
   go_ret2
   unfold NewEdnsC
   rw [E.out]
   exact ⟨none, 0, rfl, EdnO.nil _ _ _, belowGo hbx2.out b6⟩
set_option maxHeartbeats 4000000 in
theorem adds_i (A : Option Addr) (c : Nat) (es : List Edn) (x : Edh) (e : Edn) (w : World) (h : LTblC w A c es) (hx : XTbl w x e) :
  Calls Tryz.prog 16 #[.slice A es.length c, .agg #[.int .i64 x.y, .slice x.A x.n x.c]] w (NewEdnsC w (adR es e)) := by
 have kb := KeepN.new w x.y x.A x.n x.c
 have hn := h.len
 rcases Bool.eq_false_or_eq_true (lbB es) with hr | hr
 ·
  rcases Bool.eq_false_or_eq_true (rbB e.cs) with hv | hv
  ·
   obtain ⟨g, off, rfl⟩ := lb_some h.row hr
   obtain ⟨ps, p1, p2⟩ := ednR_hs h.row
   have hle := plc_leL es e.y
   have hl := p2.len
   have hcap := h.cap
   obtain ⟨k, hk⟩ : ∃ k, plcL es e.y = k := ⟨_, rfl⟩
   by_cases hkc : k = c
   ·
    have := adds_wb g off c ps es x e w h.tbl p1 p2 hx (by omega) hr hv (by omega) (by omega)
    rw [hl] at this
    rw [show c = es.length by omega]
    exact this
   ·
    have := adds_wc g off c k ps es x e w h.tbl p1 p2 hx (by omega) hr hv hk (by omega) hkc (by omega)
    rw [hl] at this
    exact this
  ·
   have HT := Lib.hid (lbI_q (c := c) (h.tbl.below kb.bel) hr)
   have HV : Hid (∀ W, Below w.heap.size w W -> Calls Tryz.prog 32 #[.slice x.A x.n x.c] W (Gives W (.bool false))) := Lib.hid (fun W b => by
    have := isRb_i x.A x.c e.cs W (hx.tbl.below b)
    rw [hv] at this
    rw [hx.one.2.1]; exact this)
   have E := Lib.hid (@adR_no es e (by rw [hv, Bool.and_false]))
   clear h hv hx
   go_enter Tryz.func16, Tryz.ntmps16
   go_wp2_with (first
    | (go_at_call 27; refine HT.out.mono ?_; rintro e' w1 ⟨rfl, b1⟩; have kb1 := kb.step b1; have c0 := kb1.c0; have c1 := kb1.c1)
    | (go_at_call 32; refine (HV.out _ kb1.bel).mono ?_; rintro e' w2 ⟨rfl, b2⟩; have kb2 := kb1.step b2))
   go_ret2
   unfold NewEdnsC
   rw [E.out]
   exact ⟨none, 0, rfl, EdnO.nil _ _ _, kb2.bel⟩
 ·
  have HT := Lib.hid (lbI_q (c := c) (h.tbl.below kb.bel) hr)
  have E := Lib.hid (@adR_no es e (by rw [hr, Bool.false_and]))
  clear h hx
  go_enter Tryz.func16, Tryz.ntmps16
  go_wp2_with (go_at_call 27; refine HT.out.mono ?_; rintro e' w1 ⟨rfl, b1⟩)
  go_ret2
  unfold NewEdnsC
  rw [E.out]
  exact ⟨none, 0, rfl, EdnO.nil _ _ _, belowGo kb.bel b1⟩
end Go.Proofs.YtjcklmhgjdmjoaaGreat
