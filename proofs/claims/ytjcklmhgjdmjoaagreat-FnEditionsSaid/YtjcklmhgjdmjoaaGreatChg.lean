import Derived.Test.YtjcklmhgjdmjoaaGreatOws
import Derived.Test.YtjcklmhgjdmjoaaGreatMCll
import Derived.Laws.StructEq
namespace Go.Proofs.YtjcklmhgjdmjoaaGreat
open Go.ChangeShapes Go.WideShapes Go.ChangeAt Go.RowKit
set_option linter.unusedVariables false
def clB (p q : Cls) : Bool := p.c == q.c && (p.k == q.k && (p.p == q.p && (p.v == q.v && (p.r == q.r && (p.e == q.e && p.t == q.t)))))
theorem clB_same (p : Cls) : clB p p = true := by simp [clB]
theorem toList_mkC (s : List UInt8) : (⟨s.toArray⟩ : ByteArray).toList = s := by simp [ByteArray.toList_eq]
theorem eqIn_cls (W : World) (p q : Cls) : (Op.equalIn 10000 47 (.agg #[.string ⟨p.c.toArray⟩, .int .i64 p.k, .int .i64 p.p, .int .i64 p.v, .int .i64 p.r, .int .i64 p.e, .string ⟨p.t.toArray⟩]) (.agg #[.string ⟨q.c.toArray⟩, .int .i64 q.k, .int .i64 q.p, .int .i64 q.v, .int .i64 q.r, .int .i64 q.e, .string ⟨q.t.toArray⟩])).run Tryz.prog W = .ok (clB p q) W := by
 show (Op.equalIn (9999 + 1) 47 _ _).run Tryz.prog W = _
 rw [run_equalIn_agg W 9999 47 _ _ (by kernel_rfl) (by kernel_rfl)]
 obtain ⟨k, hk⟩ : ∃ k, 9999 = k + 1 := ⟨9998, rfl⟩
 rw [hk]
 simp only [Program.fieldsOf, Tryz.underlying47]
 have H := fun (x y : Int) => run_equalIn_int (P := Tryz.prog) W k 2 .i64 .i64 x y Tryz.underlying2
 have HS : ∀ (x y : List UInt8), (Op.equalIn (k + 1) 9 (.string ⟨x.toArray⟩) (.string ⟨y.toArray⟩)).run Tryz.prog W = .ok (x == y) W := fun x y => by
  have h := run_equalIn_string (P := Tryz.prog) W k 9 ⟨x.toArray⟩ ⟨y.toArray⟩ Tryz.underlying9
  rw [h]
  simp [toList_mkC, beq_toListBytes]
 clear hk
 unfold clB
 by_cases h1 : p.c = q.c
 ·
  simp [Op.eqFields, go_sem, part, H, HS, h1]
  repeat' split
  all_goals simp_all
 ·
  simp [Op.eqFields, go_sem, part, H, HS, h1]
theorem neq_cls (W : World) (p q : Cls) : (binOp .neq 47 (.agg #[.string ⟨p.c.toArray⟩, .int .i64 p.k, .int .i64 p.p, .int .i64 p.v, .int .i64 p.r, .int .i64 p.e, .string ⟨p.t.toArray⟩]) (.agg #[.string ⟨q.c.toArray⟩, .int .i64 q.k, .int .i64 q.p, .int .i64 q.v, .int .i64 q.r, .int .i64 q.e, .string ⟨q.t.toArray⟩])).run Tryz.prog W = .ok (.bool (!clB p q)) W := by
 rw [run_neq_struct]
 exact (congrArg (fun r => Result.andThen r _) (eqIn_cls W p q)).trans rfl
def chgB (qs : List Cls) (p : Cls) : Bool :=
 if fndIC qs p.c < 0 then true else match qs[(fndIC qs p.c).toNat]? with | some q => !clB p q | none => true
def newB (ps : List Cls) (q : Cls) : Bool := decide (fndIC ps q.c < 0)
def chgL (ps qs : List Cls) : List (List UInt8) := (ps.filter (chgB qs)).map Cls.c ++ (qs.filter (newB ps)).map Cls.c
theorem fil_snoc (f : Cls -> Bool) (L : List Cls) (p : Cls) : ((L ++ [p]).filter f).map Cls.c = if f p = true then (L.filter f).map Cls.c ++ [p.c] else (L.filter f).map Cls.c := by
 rw [List.filter_append, List.map_append]
 cases h : f p <;> simp [h]
theorem fil_len (f : Cls -> Bool) (L : List Cls) : ((L.filter f).map Cls.c).length <= L.length := by rw [List.length_map]; exact List.length_filter_le _ _
def ccR (ps qs : List Cls) : List (List UInt8) × Int := if rbB ps = true /\ rbB qs = true then (ownU (chgL ps qs), 0) else ([], 1)
theorem ccR_no {ps qs : List Cls} (h : rbB ps = false ∨ rbB qs = false) : ccR ps qs = ([], 1) := by
 unfold ccR; rw [if_neg]; rintro ⟨h1, h2⟩; rcases h with h | h <;> simp_all
theorem ccR_ok {ps qs : List Cls} (h : rbB ps = true) (h1 : rbB qs = true) : ccR ps qs = (ownU (chgL ps qs), 0) := by unfold ccR; rw [if_pos ⟨h, h1⟩]
theorem own_someC {w : World} {base n q : Nat} {O : Option Addr} {L : List (List UInt8)} (h : Ost w base O n q L) (hn : 0 < n) : ∃ g, O = some ⟨g, 0, none⟩ := by
 rcases h.2 with ⟨_, h2⟩ | ⟨g, cap, cur, h1, _⟩
 ·
  omega
 ·
  injection h1 with h1 _ _; exact ⟨g, h1⟩
theorem insU_posC (ws : List (List UInt8)) (s : List UInt8) : 0 < (insU ws s).length := List.length_pos_of_mem ((insU_mem ws s s).2 (.inl rfl))
theorem made0C (w : World) (base : Nat) (e : TypeId) (size : Nat) (hb : base <= w.heap.size) : (w.alloc (Obj.cells #[] e)).ownsRow base e size (.slice (some ⟨w.heap.size, 0, none⟩) 0 0) 0 [] :=
 World.ownsRow_made w #[] 0 hb (by decide) (by simp)
set_option maxRecDepth 100000 in
set_option maxHeartbeats 8000000 in
theorem cc_s_ok (A B : Option Addr) (c d : Nat) (ps qs : List Cls) (w : World) (ha : CTbl w A ps) (hb0 : CTbl w B qs) (h : rbB ps = true) (h1 : rbB qs = true) :
  Calls Tryz.prog 11 #[.slice A ps.length c, .slice B qs.length d] w (NewStrsC w (ccR ps qs)) := by
 have HA := Lib.hid (rbS_q (c := c) ha h)
 have HB := Lib.hid (fun W (b : Below w.heap.size w W) => rbS_q (c := d) (hb0.below b) h1)
 have E := Lib.hid (ccR_ok h h1)
 have l1 := (rb_of h).hi
 have l2 := (rb_of h1).hi
 clear h h1
 go_enter Tryz.func11, Tryz.ntmps11
 go_wp2_with (first
  | (go_at_call 30; refine (HB.out _ b1).mono ?_; rintro e w2 ⟨rfl, b2⟩; have t2 := belowGo b1 b2)
  | (go_at_call 30; refine HA.out.mono ?_; rintro e w1 ⟨rfl, b1⟩))
 have hw2 := t2.size
 clear HA HB
 go_loopw [6, 7] (fun o i wr => ∃ (k g q : Nat) (ys : List (List UInt8)), k <= ps.length /\ i = .int .i64 k /\ o = .slice (some ⟨g, 0, none⟩) ys.length q /\ Ost wr w.heap.size (some ⟨g, 0, none⟩) ys.length q ys /\ Hid (ys = ownU (((ps.take k).filter (chgB qs)).map Cls.c)) /\ Below w.heap.size w wr) (fun _ i _ => ps.length - (intOf i).toNat)
 case atStart => exact ⟨0, _, 0, [], Nat.zero_le _, rfl, rfl, made0C _ _ _ _ hw2, Lib.hid rfl, t2.alloc hw2 _⟩
 case round =>
  clear t2 b1 b2
  obtain ⟨k, g, q, ys, hk, rfl, rfl, hown, hys, hb⟩ := hrel
  have hyl : ys.length <= k := by rw [hys.out]; have h1 := ownU_len (((ps.take k).filter (chgB qs)).map Cls.c); have h2 := fil_len (chgB qs) (ps.take k); rw [List.length_take] at h2; omega
  by_cases hlt : k < ps.length
  ·
   obtain ⟨b, off, p, rfl, hl, hp, h4⟩ := (ha.row.below hb).at hlt
   have q0 : ∀ y : Sub (Bel wr), y.w.cell? ⟨b, off + k * 7, none⟩ = some (.string ⟨p.c.toArray⟩) := fun y => (h4.below hl y.h).c0
   have q1 : ∀ y : Sub (Bel wr), y.w.cell? ⟨b, off + k * 7 + 1, none⟩ = some (.int .i64 p.k) := fun y => (h4.below hl y.h).c1
   have q2 : ∀ y : Sub (Bel wr), y.w.cell? ⟨b, off + k * 7 + 2, none⟩ = some (.int .i64 p.p) := fun y => (h4.below hl y.h).c2
   have q3 : ∀ y : Sub (Bel wr), y.w.cell? ⟨b, off + k * 7 + 3, none⟩ = some (.int .i64 p.v) := fun y => (h4.below hl y.h).c3
   have q4 : ∀ y : Sub (Bel wr), y.w.cell? ⟨b, off + k * 7 + 4, none⟩ = some (.int .i64 p.r) := fun y => (h4.below hl y.h).c4
   have q5 : ∀ y : Sub (Bel wr), y.w.cell? ⟨b, off + k * 7 + 5, none⟩ = some (.int .i64 p.e) := fun y => (h4.below hl y.h).c5
   have q6 : ∀ y : Sub (Bel wr), y.w.cell? ⟨b, off + k * 7 + 6, none⟩ = some (.string ⟨p.t.toArray⟩) := fun y => (h4.below hl y.h).c6
   have c0 := h4.c0
   have HF := Lib.hid (find_sC B d qs p.c wr (hb0.row.below hb) (by have := hb0.len; omega))
   have HS := Lib.hid (fil_snoc (chgB qs) (ps.take k) p)
   rw [<- snoc_of hp.out] at HS
   have HYes : Hid (chgB qs p = true -> insU ys p.c = ownU (((ps.take (k + 1)).filter (chgB qs)).map Cls.c)) := Lib.hid (fun h => by rw [HS.out, if_pos h, ownU_snoc, <- hys.out])
   have HNo : Hid (chgB qs p = false -> ys = ownU (((ps.take (k + 1)).filter (chgB qs)).map Cls.c)) := Lib.hid (fun h => by rw [HS.out, if_neg (by rw [h]; decide), <- hys.out])
   have hch : Hid (chgB qs p = if fndIC qs p.c < 0 then true else match qs[(fndIC qs p.c).toNat]? with | some q => !clB p q | none => true) := Lib.hid rfl
   have hbd := fndIC_bd qs p.c
   have HI := Lib.hid (fun y : Sub (Bel wr) => insert_s w.heap.size g q ys p.c y.w (Ost.below hown y.h) (by omega) (own_roomO hown) (Nat.le_trans hb.size y.h.size))
   have HB := Lib.hid (fun y : Sub (Bel wr) => (belowGo hb y.h : Below w.heap.size w y.w))
   have hpos := insU_posC ys p.c
   have HQ := Lib.hid (hb0.row.below hb)
   have hown' := hown
   clear HS h4 hp hys hown ha hb0
   generalize fndIC qs p.c = f at *
   by_cases hf : f < 0
   ·
    have HSn := Lib.hid (HYes.out (by rw [hch.out, if_pos hf]))
    clear HYes HNo hch HQ
    go_wp2_with (go_at_call 40; refine HF.out.mono ?_; rintro e w2 ⟨rfl, rfl⟩)
    refine region_held (Bel wr) (by kernel_rfl) (by kernel_rfl) (Bel.drew wr) ?_
    repeat (go_big_quiet_step (first | rfl | exact N _))
    refine wpQuiet_nil ?_
    rintro _ ⟨y, rfl⟩
    have HI2 := Lib.hid (HI.out y)
    have HB2 := HB.out y
    have cc0 := q0 y
    go_wp2_with (go_at_call 41; refine HI2.out.mono ?_; rintro e w3 ⟨O, q3, rfl, o2, b2⟩)
    obtain ⟨g2, rfl⟩ := own_someC o2 hpos
    go_roundw
    case rel => exact ⟨k + 1, g2, q3, insU ys p.c, by omega, by go_num, rfl, o2, HSn, HB2.trans b2⟩
    case measure => simp [intOf]; omega
   ·
    obtain ⟨m, rfl⟩ : ∃ m : Nat, f = (m : Int) := ⟨f.toNat, by omega⟩
    obtain ⟨b', off', q2, rfl, hl', hq2, h4'⟩ := HQ.out.at (k := m) (by omega)
    have m0 : ∀ y : Sub (Bel wr), y.w.cell? ⟨b', off' + m * 7, none⟩ = some (.string ⟨q2.c.toArray⟩) := fun y => (h4'.below hl' y.h).c0
    have m1 : ∀ y : Sub (Bel wr), y.w.cell? ⟨b', off' + m * 7 + 1, none⟩ = some (.int .i64 q2.k) := fun y => (h4'.below hl' y.h).c1
    have m2 : ∀ y : Sub (Bel wr), y.w.cell? ⟨b', off' + m * 7 + 2, none⟩ = some (.int .i64 q2.p) := fun y => (h4'.below hl' y.h).c2
    have m3 : ∀ y : Sub (Bel wr), y.w.cell? ⟨b', off' + m * 7 + 3, none⟩ = some (.int .i64 q2.v) := fun y => (h4'.below hl' y.h).c3
    have m4 : ∀ y : Sub (Bel wr), y.w.cell? ⟨b', off' + m * 7 + 4, none⟩ = some (.int .i64 q2.r) := fun y => (h4'.below hl' y.h).c4
    have m5 : ∀ y : Sub (Bel wr), y.w.cell? ⟨b', off' + m * 7 + 5, none⟩ = some (.int .i64 q2.e) := fun y => (h4'.below hl' y.h).c5
    have m6 : ∀ y : Sub (Bel wr), y.w.cell? ⟨b', off' + m * 7 + 6, none⟩ = some (.string ⟨q2.t.toArray⟩) := fun y => (h4'.below hl' y.h).c6
    have hch2 : chgB qs p = !clB p q2 := by rw [hch.out, if_neg hf]; simp [hq2.out]
    have N0 := fun W => neq_cls W p q2
    have hm0 : decide ((m : Int) < 0) = false := decide_eq_false (by omega)
    generalize clB p q2 = v at *
    clear hch hq2 h4' HQ
    cases v
    ·
     have HSn := Lib.hid (HYes.out (by rw [hch2]; rfl))
     have N := fun W => N0 W
     simp only [Bool.not_false] at N
     clear HYes HNo hch2 N0
     go_wp2_with (go_at_call 40; refine HF.out.mono ?_; rintro e w2 ⟨rfl, rfl⟩)
     refine region_held (Bel wr) (by kernel_rfl) (by kernel_rfl) (Bel.drew wr) ?_
     repeat (go_big_quiet_step (first | rfl | exact N _))
     refine wpQuiet_nil ?_
     rintro _ ⟨y, rfl⟩
     have HI2 := Lib.hid (HI.out y)
     have HB2 := HB.out y
     have cc0 := q0 y
     go_wp2_with (go_at_call 41; refine HI2.out.mono ?_; rintro e w3 ⟨O, q3, rfl, o2, b2⟩)
     obtain ⟨g2, rfl⟩ := own_someC o2 hpos
     go_roundw
     case rel => exact ⟨k + 1, g2, q3, insU ys p.c, by omega, by go_num, rfl, o2, HSn, HB2.trans b2⟩
     case measure => simp [intOf]; omega
    ·
     have HSn := Lib.hid (HNo.out (by rw [hch2]; rfl))
     have N := fun W => N0 W
     simp only [Bool.not_true] at N
     have HO := Lib.hid (fun y : Sub (Bel wr) => Ost.below hown' y.h)
     clear HYes HNo hch2 N0 HI
     go_wp2_with (go_at_call 40; refine HF.out.mono ?_; rintro e w2 ⟨rfl, rfl⟩)
     refine region_held (Bel wr) (by kernel_rfl) (by kernel_rfl) (Bel.drew wr) ?_
     repeat (go_big_quiet_step (first | rfl | exact N _))
     refine wpQuiet_nil ?_
     rintro _ ⟨y, rfl⟩
     have HB2 := HB.out y
     have HO2 := HO.out y
     go_wp2_with fail
     go_roundw
     case rel => exact ⟨k + 1, g, q, ys, by omega, by go_num, rfl, HO2, HSn, HB2⟩
     case measure => simp [intOf]; omega
  ·
   have HY : Hid (ys = ownU ((ps.filter (chgB qs)).map Cls.c)) := Lib.hid (by rw [hys.out, take_all hk hlt])
   obtain ⟨G, hG⟩ : ∃ G, G = (ps.filter (chgB qs)).map Cls.c := ⟨_, rfl⟩
   rw [<- hG] at HY
   have HG : Hid (G.length <= 12 /\ chgL ps qs = G ++ (qs.filter (newB ps)).map Cls.c) := Lib.hid ⟨by rw [hG]; have := fil_len (chgB qs) ps; omega, by rw [hG]; rfl⟩
   have HR1 := Lib.hid ha
   have HR2 := Lib.hid hb0
   clear hys hG ha hb0
   go_wp2_with fail
   go_loopw [6, 9] (fun o i wr => ∃ (k g q : Nat) (ys : List (List UInt8)), k <= qs.length /\ i = .int .i64 k /\ o = .slice (some ⟨g, 0, none⟩) ys.length q /\ Ost wr w.heap.size (some ⟨g, 0, none⟩) ys.length q ys /\ Hid (ys = ownU (G ++ ((qs.take k).filter (newB ps)).map Cls.c)) /\ Below w.heap.size w wr) (fun _ i _ => qs.length - (intOf i).toNat)
   case atStart => exact ⟨0, g, q, ys, Nat.zero_le _, rfl, rfl, hown, Lib.hid (by rw [HY.out]; simp), hb⟩
   case round =>
    clear hown hb HY hyl
    obtain ⟨k, g, q, ys, hk, rfl, rfl, hown, hys, hb⟩ := hrel
    have hyl : ys.length <= 12 + k := by
     rw [hys.out]
     have h1 := ownU_len (G ++ ((qs.take k).filter (newB ps)).map Cls.c); have h2 := fil_len (newB ps) (qs.take k); have h3 := HG.out.1
     rw [List.length_take] at h2; rw [List.length_append] at h1; omega
    by_cases hlt : k < qs.length
    ·
     obtain ⟨b, off, p, rfl, hl, hp, h4⟩ := (HR2.out.row.below hb).at hlt
     have c0 := h4.c0
     have HF := Lib.hid (find_sC A c ps p.c wr (HR1.out.row.below hb) (by omega))
     have HS := Lib.hid (fil_snoc (newB ps) (qs.take k) p)
     rw [<- snoc_of hp.out] at HS
     have HI := Lib.hid (insert_s w.heap.size g q ys p.c wr hown (by omega) (own_roomO hown) hb.size)
     have hpos := insU_posC ys p.c
     have hnw : Hid (newB ps p = decide (fndIC ps p.c < 0)) := Lib.hid rfl
     have HYes : Hid (newB ps p = true -> insU ys p.c = ownU (G ++ ((qs.take (k + 1)).filter (newB ps)).map Cls.c)) := Lib.hid (fun h => by rw [HS.out, if_pos h, <- List.append_assoc, ownU_snoc, <- hys.out])
     have HNo : Hid (newB ps p = false -> ys = ownU (G ++ ((qs.take (k + 1)).filter (newB ps)).map Cls.c)) := Lib.hid (fun h => by rw [HS.out, if_neg (by rw [h]; decide), <- hys.out])
     generalize fndIC ps p.c = f at *
     by_cases hf : f < 0
     ·
      have HSn := Lib.hid (HYes.out (by rw [hnw.out]; exact decide_eq_true hf))
      clear HYes HNo HS hnw hp h4 hys hown
      go_wp2_with (first
       | (go_at_call 40; refine HF.out.mono ?_; rintro e w2 ⟨rfl, rfl⟩)
       | (go_at_call 41; refine HI.out.mono ?_; rintro e w3 ⟨O, q3, rfl, o2, b2⟩))
      obtain ⟨g2, rfl⟩ := own_someC o2 hpos
      go_roundw
      case rel => exact ⟨k + 1, g2, q3, insU ys p.c, by omega, by go_num, rfl, o2, HSn, hb.trans b2⟩
      case measure => simp [intOf]; omega
     ·
      have HSn := Lib.hid (HNo.out (by rw [hnw.out]; exact decide_eq_false hf))
      have hf2 : 0 <= f := by omega
      clear HYes HNo HS hnw hp h4 hys HI
      go_wp2_with (go_at_call 40; refine HF.out.mono ?_; rintro e w2 ⟨rfl, rfl⟩)
      go_roundw
      case rel => exact ⟨k + 1, g, q, ys, by omega, by go_num, rfl, hown, HSn, hb⟩
      case measure => simp [intOf]; omega
    ·
     have HY : Hid (ownU (chgL ps qs) = ys) := Lib.hid (by rw [hys.out, take_all hk hlt, HG.out.2])
     clear hys
     go_wp2_with fail
     go_ret2
     rw [E.out, HY.out]
     exact ⟨_, q, rfl, hown, hb⟩
theorem cc_s (A B : Option Addr) (c d : Nat) (ps qs : List Cls) (w : World) (ha : CTbl w A ps) (hb : CTbl w B qs) :
  Calls Tryz.prog 11 #[.slice A ps.length c, .slice B qs.length d] w (NewStrsC w (ccR ps qs)) := by
 rcases Bool.eq_false_or_eq_true (rbB ps) with h | h
 ·
  rcases Bool.eq_false_or_eq_true (rbB qs) with h1 | h1
  ·
   exact cc_s_ok A B c d ps qs w ha hb h h1
  ·
   have HA := Lib.hid (rbS_q (c := c) ha h)
   have HB := Lib.hid (fun W (b : Below w.heap.size w W) => rbS_q (c := d) (hb.below b) h1)
   have E := Lib.hid (@ccR_no ps qs (.inr h1))
   clear ha hb h h1
   go_enter Tryz.func11, Tryz.ntmps11
   go_wp2_with (first
    | (go_at_call 30; refine (HB.out _ b1).mono ?_; rintro e w2 ⟨rfl, b2⟩; have t2 := belowGo b1 b2)
    | (go_at_call 30; refine HA.out.mono ?_; rintro e w1 ⟨rfl, b1⟩))
   go_ret2
   rw [E.out]
   exact ⟨none, 0, rfl, Ost.nil _ _, t2⟩
 ·
  have HA := Lib.hid (rbS_q (c := c) ha h)
  have E := Lib.hid (@ccR_no ps qs (.inl h))
  clear ha hb h
  go_enter Tryz.func11, Tryz.ntmps11
  go_wp2_with (go_at_call 30; refine HA.out.mono ?_; rintro e w1 ⟨rfl, b1⟩)
  go_ret2
  rw [E.out]
  exact ⟨none, 0, rfl, Ost.nil _ _, b1⟩
end Go.Proofs.YtjcklmhgjdmjoaaGreat
