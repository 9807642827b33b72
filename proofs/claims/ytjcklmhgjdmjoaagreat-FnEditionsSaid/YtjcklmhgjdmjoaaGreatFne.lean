import Derived.Test.YtjcklmhgjdmjoaaGreatMCha
import Derived.Test.YtjcklmhgjdmjoaaGreatDrt
import Derived.Test.YtjcklmhgjdmjoaaGreatMDrb
import Derived.Test.YtjcklmhgjdmjoaaGreatMFdd
import Derived.Test.YtjcklmhgjdmjoaaGreatMStg
import Derived.Test.YtjcklmhgjdmjoaaGreatMEdi
import Derived.Test.YtjcklmhgjdmjoaaGreatEdb
import Derived.Test.YtjcklmhgjdmjoaaGreatMEdm
import Derived.Laws.StructEq
namespace Go.Proofs.YtjcklmhgjdmjoaaGreat
open Go.ChangeShapes Go.WideShapes Go.ChangeAt Go.RowKit
set_option linter.unusedVariables false
theorem neq_same10 (W : World) (p : Evt) : (binOp .neq 30 (.agg #[.int .i64 p.d, .int .i64 p.k, .string ⟨p.c.toArray⟩, .int .i64 p.a, .bool p.p, .bool p.v, .bool p.r]) (.agg #[.int .i64 p.d, .int .i64 p.k, .string ⟨p.c.toArray⟩, .int .i64 p.a, .bool p.p, .bool p.v, .bool p.r])).run Tryz.prog W = .ok (.bool false) W := by
 have h : (Op.equalIn (9999 + 1) 30 (.agg #[.int .i64 p.d, .int .i64 p.k, .string ⟨p.c.toArray⟩, .int .i64 p.a, .bool p.p, .bool p.v, .bool p.r]) (.agg #[.int .i64 p.d, .int .i64 p.k, .string ⟨p.c.toArray⟩, .int .i64 p.a, .bool p.p, .bool p.v, .bool p.r])).run Tryz.prog W = .ok true W := by
  rw [run_equalIn_agg W 9999 30 _ _ (by kernel_rfl) (by kernel_rfl)]
  obtain ⟨k, hk⟩ : ∃ k, 9999 = k + 1 := ⟨9998, rfl⟩
  rw [hk]
  simp only [Program.fieldsOf, Tryz.underlying30]
  have H := fun (x y : Int) => run_equalIn_int (P := Tryz.prog) W k 2 .i64 .i64 x y Tryz.underlying2
  have HS := fun (x y : ByteArray) => run_equalIn_string (P := Tryz.prog) W k 9 x y Tryz.underlying9
  have HBo := fun (x y : Bool) => run_equalIn_bool (P := Tryz.prog) W k 4 x y Tryz.underlying4
  clear hk
  simp [Op.eqFields, go_sem, part, H, HS, HBo]
 rw [run_neq_struct]
 exact (congrArg (fun r => Result.andThen r _) h).trans rfl
theorem keepHF {w w' : World} {k : Nat} {o : Obj} (hb : Below w.heap.size w w') (h : w.heap[k]? = some o) : w'.heap[k]? = some o := (hb.block _ (lt_some h)).trans h
theorem two_at {W : World} {k : Nat} {x y : Value} {t : TypeId} (h : W.heap[k]? = some (.cells #[x, y] t (0, 0))) : W.cell? ⟨k, 0, none⟩ = some x /\ W.cell? ⟨k, 1, none⟩ = some y := ⟨by rw [cell_of_row _ _ _ _ _ _ h]; rfl, by rw [cell_of_row _ _ _ _ _ _ h]; rfl⟩
theorem seven_at {W : World} {k : Nat} {x0 x1 x2 x3 x4 x5 x6 : Value} {t : TypeId} (h : W.heap[k]? = some (.cells #[x0, x1, x2, x3, x4, x5, x6] t (0, 0))) :
  W.cell? ⟨k, 0, none⟩ = some x0 /\ W.cell? ⟨k, 1, none⟩ = some x1 /\ W.cell? ⟨k, 2, none⟩ = some x2 /\ W.cell? ⟨k, 3, none⟩ = some x3 /\ W.cell? ⟨k, 4, none⟩ = some x4 /\ W.cell? ⟨k, 5, none⟩ = some x5 /\ W.cell? ⟨k, 6, none⟩ = some x6 :=
 ⟨by rw [cell_of_row _ _ _ _ _ _ h]; rfl, by rw [cell_of_row _ _ _ _ _ _ h]; rfl, by rw [cell_of_row _ _ _ _ _ _ h]; rfl, by rw [cell_of_row _ _ _ _ _ _ h]; rfl, by rw [cell_of_row _ _ _ _ _ _ h]; rfl, by rw [cell_of_row _ _ _ _ _ _ h]; rfl, by rw [cell_of_row _ _ _ _ _ _ h]; rfl⟩
theorem addL_mem10 {es : List Edn} {x e : Edn} (h : e ∈ addL es x) : e ∈ es ∨ e = x := by
 unfold addL at h
 simp only [List.mem_append, List.mem_singleton] at h
 rcases h with (h | h) | h
 ·
  exact .inl (List.mem_of_mem_take h)
 ·
  exact .inr h
 ·
  exact .inl (List.mem_of_mem_drop h)
theorem adR_bd {es : List Edn} {x : Edn} (h : ∀ e ∈ es, e.cs.length <= 30 /\ ∀ q ∈ e.cs, q.sz <= 100) (hx : x.cs.length <= 30 /\ ∀ q ∈ x.cs, q.sz <= 100) : (adR es x).1.length <= es.length + 1 /\ ∀ e ∈ (adR es x).1, e.cs.length <= 30 /\ ∀ q ∈ e.cs, q.sz <= 100 := by
 unfold adR
 split
 ·
  split
  ·
   refine ⟨Nat.le_of_eq (addL_len es x), fun e he => ?_⟩
   rcases addL_mem10 he with h1 | rfl
   ·
    exact h e h1
   ·
    exact hx
  ·
   exact ⟨Nat.zero_le _, fun e he => by cases he⟩
 ·
  exact ⟨Nat.zero_le _, fun e he => by cases he⟩
theorem amR_bd (es : List Edn) (y : Int) (q : Cls) : ∀ e ∈ (amR es y q).1, e.cs.length <= 12 := by
 have H : (amR es y q).1 = [] ∨ lbB (amR es y q).1 = true := by
  unfold amR
  split
  ·
   split
   ·
    split
    ·
     split
     ·
      split
      ·
       rename_i h; exact .inr h
      ·
       exact .inl rfl
     ·
      exact .inl rfl
    ·
     exact .inl rfl
   ·
    exact .inl rfl
  ·
   exact .inl rfl
 rcases H with H | H
 ·
  rw [H]; intro e he; cases he
 ·
  exact fun e he => (rb_of ((lb_of H).one e he).2).hi
theorem amR_len (es : List Edn) (y : Int) (q : Cls) : (amR es y q).1.length <= 1000 := by
 have H : (amR es y q).1 = [] ∨ lbB (amR es y q).1 = true := by
  unfold amR
  split
  ·
   split
   ·
    split
    ·
     split
     ·
      split
      ·
       rename_i h; exact .inr h
      ·
       exact .inl rfl
     ·
      exact .inl rfl
    ·
     exact .inl rfl
   ·
    exact .inl rfl
  ·
   exact .inl rfl
 rcases H with H | H
 ·
  rw [H]; exact Nat.zero_le _
 ·
  exact Nat.le_trans (lb_of H).len.2 (by decide)
theorem adR_found {es : List Edn} {x : Edn} (h : (adR es x).2 = 0) : ∃ k : Nat, efR (adR es x).1 x.y = ((k : Int), 0) /\ (adR es x).1[k]? = some x := by
 unfold adR at h ⊢
 split
 ·
  rename_i h1
  rw [if_pos h1] at h
  split
  ·
   rename_i h2; exact ad_found h2
  ·
   rename_i h2; rw [if_neg h2] at h; cases h
 ·
  rename_i h1; rw [if_neg h1] at h; cases h
theorem ed_facts {ps qs : List Cls} (h : (sdR ps qs).2 = 0) : rbB ps = true /\ (((sdR ps qs).1 = true /\ (fdR ps qs).2 = 4) ∨ ((sdR ps qs).1 = false /\ (fdR ps qs).2 = 0 /\ decide (ps = qs) = false)) := by
 obtain ⟨h1, h2⟩ := sd_zero h
 refine ⟨h1, ?_⟩
 rcases Bool.eq_false_or_eq_true (difE ps qs).2 with h3 | h3
 ·
  rw [sdR_ok h1 h2, fdR_ok h1 h2 h3, h3]
  refine .inr ⟨rfl, rfl, decide_eq_false fun e => ?_⟩
  rw [e, same_none] at h3; cases h3
 ·
  rw [sdR_ok h1 h2, fdR_none h1 h2 h3, h3]; exact .inl ⟨rfl, rfl⟩
theorem yo_len10 (es : List Edn) (s : List UInt8) (h : es.length <= 100) : (yoR es s).1.length <= 1000 := by
 unfold yoR
 split
 ·
  have := yrsE_len es s; show (yrsE es s).length <= _; omega
 ·
  simp
theorem cc_len10 (ps qs : List Cls) (h : ps.length <= 100) (h1 : qs.length <= 100) : (ccR ps qs).1.length <= 1000 := by
 unfold ccR
 split
 ·
  have := ownU_len (chgL ps qs)
  have h3 := fil_len (chgB qs) ps
  have h4 := fil_len (newB ps) qs
  unfold chgL at this
  rw [List.length_append] at this
  show (ownU (chgL ps qs)).length <= _
  unfold chgL; omega
 ·
  simp
set_option maxRecDepth 100000 in
set_option maxHeartbeats 32000000 in
theorem law_FnEditions (A : Option Addr) (c : Nat) (bs : List Int) (w : World) (hA : Rw w A (bs.map (Value.int .u8))) (hm : bs.length <= maxLen) (hb : ∀ b ∈ bs, 0 <= b /\ b <= 255) (hB : bs ≠ [] -> Bd A w.heap.size) :
  Calls Tryz.prog 3 #[.slice A bs.length c] w fun e w' => e = .returned (.bool true) /\ Below w.heap.size w w' := by
 by_cases hl : 4096 < bs.length
 ·
  have hd : decide (4096 < bs.length) = true := by simpa using hl
  go_enter Tryz.func3, Tryz.ntmps3
  go_wp2_with (go_at_call 4; refine (big_p10 _ _ _ _ hm).mono ?_; rintro e w' ⟨rfl, rfl⟩)
  go_ret
  exact ⟨rfl, Below.refl _ _⟩
 have hd : decide (4096 < bs.length) = false := by simpa using hl
 have h0 : Code0 w A bs := ⟨hA, hB, hb, by omega⟩
 clear hA hB hb
 go_enter Tryz.func3, Tryz.ntmps3
 go_wp2_with (go_at_call 4; refine (big_p10 _ _ _ _ hm).mono ?_; rintro e w' ⟨rfl, rfl⟩)
 refine (drawSD A c bs _ h0).mono ?_
 rintro e w1 ⟨B1, d1, ps, B2, d2, qs, rfl, hp30, hq30, htp, htq, C1, C2, t1⟩
 clear hm hl hd
 have HC1 := Lib.hid (fun W (base : Nat) (h : ClsO W base B1 ps.length d1 ps) => ctblC_of h (fun q hq => by have := htp q hq; omega) (by omega))
 have HC2 := Lib.hid (fun W (base : Nat) (h : ClsO W base B2 qs.length d2 qs) => ctblC_of h (fun q hq => by have := htq q hq; omega) (by omega))
 have HS1 := Lib.hid (fun W (h : CTblC W B1 d1 ps) (h2 : CTblC W B2 d2 qs) => sd_i B1 B2 d1 d2 ps qs W h h2)
 have HS2 := Lib.hid (fun W (h : CTblC W B1 d1 ps) (h2 : CTblC W B2 d2 qs) => sd_s B1 B2 d1 d2 ps qs W h.tbl h2.tbl)
 have HF1 := Lib.hid (fun W (h : CTblC W B1 d1 ps) (h2 : CTblC W B2 d2 qs) => fd_i B1 B2 d1 d2 ps qs W h h2)
 have HF2 := Lib.hid (fun W (h : CTblC W B1 d1 ps) (h2 : CTblC W B2 d2 qs) => fd_s B1 B2 d1 d2 ps qs W h.tbl h2.tbl)
 have HK1 := Lib.hid (fun W (h : CTblC W B1 d1 ps) (h2 : CTblC W B2 d2 qs) => cc_i B1 B2 d1 d2 ps qs W h.tbl h2.tbl)
 have HK2 := Lib.hid (fun W (h : CTblC W B1 d1 ps) (h2 : CTblC W B2 d2 qs) => cc_s B1 B2 d1 d2 ps qs W h.tbl h2.tbl)
 have HKS := Lib.hid (fun (hr : rbB ps = true) W (h : CTblC W B1 d1 ps) => show Calls _ _ _ W (NewStrsC W ([], 0)) from by rw [<- cc_self hr]; exact cc_i B1 B1 d1 d1 ps ps W h.tbl h.tbl)
 have HLC := Lib.hid (fun W (h : CTblC W B1 d1 ps) (h2 : CTblC W B2 d2 qs) => likeC10 B1 B2 d1 d2 ps qs W h.row h2.row (by omega) (by omega))
 have HEF := Lib.hid (@ed_facts ps qs)
 have hcl := cc_len10 ps qs (by omega) (by omega)
 generalize sdR ps qs = q0 at *
 generalize fdR ps qs = q1 at *
 generalize ccR ps qs = q2 at *
 obtain ⟨s, bad⟩ := q0
 obtain ⟨F, one⟩ := q1
 obtain ⟨L0, three⟩ := q2
 simp only at hcl HEF HS1 HS2 HF1 HF2
 go_wp2_with fail
 refine (HS1.out _ (HC1.out _ _ C1) (HC2.out _ _ C2)).mono ?_
 rintro e w2 ⟨rfl, b2⟩
 replace C1 := C1.below b2
 replace C2 := C2.below b2
 have t2 := belowGo t1 b2
 clear b2 t1
 go_wp2_with fail
 refine (HS2.out _ (HC1.out _ _ C1) (HC2.out _ _ C2)).mono ?_
 rintro e w3 ⟨rfl, b3⟩
 replace C1 := C1.below b3
 replace C2 := C2.below b3
 have t3 := belowGo t2 b3
 clear b3 t2
 go_wp2_with fail
 refine (HF1.out _ (HC1.out _ _ C1) (HC2.out _ _ C2)).mono ?_
 rintro e w4 ⟨rfl, b4⟩
 replace C1 := C1.below b4
 replace C2 := C2.below b4
 have t4 := belowGo t3 b4
 clear b4 t3
 have K1 := heap_alloc_new w4 (.cells #[.int .i64 F.d, .int .i64 F.k, .string ⟨F.c.toArray⟩, .int .i64 F.a, .bool F.p, .bool F.v, .bool F.r] 30)
 have bx := below_alloc w4 (.cells #[.int .i64 F.d, .int .i64 F.k, .string ⟨F.c.toArray⟩, .int .i64 F.a, .bool F.p, .bool F.v, .bool F.r] 30)
 replace C1 := C1.below bx
 replace C2 := C2.below bx
 replace t4 := belowGo t4 bx
 clear bx
 go_wp2_with fail
 refine (HF2.out _ (HC1.out _ _ C1) (HC2.out _ _ C2)).mono ?_
 rintro e w5 ⟨rfl, b5⟩
 replace C1 := C1.below b5
 replace C2 := C2.below b5
 replace K1 := keepHF b5 K1
 have t5 := belowGo t4 b5
 clear b5 t4
 have K2 := heap_alloc_new w5 (.cells #[.int .i64 F.d, .int .i64 F.k, .string ⟨F.c.toArray⟩, .int .i64 F.a, .bool F.p, .bool F.v, .bool F.r] 30)
 have bx := below_alloc w5 (.cells #[.int .i64 F.d, .int .i64 F.k, .string ⟨F.c.toArray⟩, .int .i64 F.a, .bool F.p, .bool F.v, .bool F.r] 30)
 replace C1 := C1.below bx
 replace C2 := C2.below bx
 replace K1 := keepHF bx K1
 replace t5 := belowGo t5 bx
 clear bx
 go_wp2_with fail
 refine (HK1.out _ (HC1.out _ _ C1) (HC2.out _ _ C2)).mono ?_
 rintro e w6 ⟨S1, s1, rfl, X1, b6⟩
 simp only at X1
 replace C1 := C1.below b6
 replace C2 := C2.below b6
 replace K1 := keepHF b6 K1
 replace K2 := keepHF b6 K2
 have t6 := belowGo t5 b6
 clear b6 t5
 go_wp2_with fail
 refine (HK2.out _ (HC1.out _ _ C1) (HC2.out _ _ C2)).mono ?_
 rintro e w7 ⟨S2, s2, rfl, X2, b7⟩
 simp only at X2
 replace C1 := C1.below b7
 replace C2 := C2.below b7
 replace K1 := keepHF b7 K1
 replace K2 := keepHF b7 K2
 replace X1 := X1.below b7
 have t7 := belowGo t6 b7
 clear b7 t6
 clear HS1 HS2 HF1 HF2 HK1 HK2
 go_wp2_with fail
 refine (drawEF A c bs _ (h0.below t7)).mono ?_
 rintro e w8 ⟨B3, d3, hs, es, y, rfl, hl8, hy, D, b8⟩
 replace C1 := C1.below b8
 replace C2 := C2.below b8
 replace K1 := keepHF b8 K1
 replace K2 := keepHF b8 K2
 replace X1 := X1.below b8
 replace X2 := X2.below b8
 have t8 := belowGo t7 b8
 clear b8 t7
 have HE1 := Lib.hid (fun W (h : LTblC W B3 d3 es) => ef_i B3 d3 es y W h)
 have HE2 := Lib.hid (fun W (h : LTblC W B3 d3 es) => ef_s B3 d3 es y W h.tbl)
 generalize efR es y = q at *
 obtain ⟨k5, five⟩ := q
 simp only at HE1 HE2
 go_wp2_with fail
 refine (HE1.out _ (D.ltblC (by omega))).mono ?_
 rintro e w9 ⟨rfl, b9⟩
 replace C1 := C1.below b9
 replace C2 := C2.below b9
 replace K1 := keepHF b9 K1
 replace K2 := keepHF b9 K2
 replace X1 := X1.below b9
 replace X2 := X2.below b9
 replace D := D.below b9
 have t9 := belowGo t8 b9
 clear b9 t8
 go_wp2_with fail
 refine (HE2.out _ (D.ltblC (by omega))).mono ?_
 rintro e w10 ⟨rfl, b10⟩
 clear D
 replace C1 := C1.below b10
 replace C2 := C2.below b10
 replace K1 := keepHF b10 K1
 replace K2 := keepHF b10 K2
 replace X1 := X1.below b10
 replace X2 := X2.below b10
 have t10 := belowGo t9 b10
 clear b10 t9
 clear HE1 HE2
 go_wp2_with fail
 refine (drawAEd A c bs _ (h0.below t10)).mono ?_
 rintro e w11 ⟨B4, d4, gs, al, ya, C4, q4, rs, rfl, hla, hya, hr30, htr, D, CR, b11⟩
 replace C1 := C1.below b11
 replace C2 := C2.below b11
 replace K1 := keepHF b11 K1
 replace K2 := keepHF b11 K2
 replace X1 := X1.below b11
 replace X2 := X2.below b11
 have t11 := belowGo t10 b11
 clear b11 t10
 have KX := heap_alloc_new w11 (.cells #[.int .i64 ya, .slice C4 rs.length q4] 42)
 have bx := below_alloc w11 (.cells #[.int .i64 ya, .slice C4 rs.length q4] 42)
 replace C1 := C1.below bx
 replace C2 := C2.below bx
 replace K1 := keepHF bx K1
 replace K2 := keepHF bx K2
 replace X1 := X1.below bx
 replace X2 := X2.below bx
 replace D := D.below bx
 replace CR := CR.below bx
 replace t11 := belowGo t11 bx
 clear bx
 have XT := Lib.hid (fun W (base : Nat) (h : ClsO W base C4 rs.length q4 rs) => (⟨⟨rfl, rfl, h.row⟩, fun q hq => by have := htr q hq; omega, by show rs.length <= _; omega⟩ : XTbl W ⟨ya, C4, rs.length, q4⟩ ⟨ya, rs⟩))
 have HA1 := Lib.hid (fun W (h : LTblC W B4 d4 al) (hx : XTbl W ⟨ya, C4, rs.length, q4⟩ ⟨ya, rs⟩) => show Calls Tryz.prog 16 #[.slice B4 al.length d4, .agg #[.int .i64 ya, .slice C4 rs.length q4]] W (NewEdnsC W (adR al ⟨ya, rs⟩)) from adds_i B4 d4 al ⟨ya, C4, rs.length, q4⟩ ⟨ya, rs⟩ W h hx)
 have HA2 := Lib.hid (fun W (h : LTblC W B4 d4 al) (hx : XTbl W ⟨ya, C4, rs.length, q4⟩ ⟨ya, rs⟩) => show Calls Tryz.prog 17 #[.slice B4 al.length d4, .agg #[.int .i64 ya, .slice C4 rs.length q4]] W (NewEdnsC W (adR al ⟨ya, rs⟩)) from adds_s B4 d4 al ⟨ya, C4, rs.length, q4⟩ ⟨ya, rs⟩ W h hx)
 obtain ⟨hLn, hLb⟩ := adR_bd (es := al) (x := ⟨ya, rs⟩) (fun e he => (D.bd e he).2) ⟨hr30, htr⟩
 have HLB := Lib.hid hLb
 have HAF := Lib.hid (@adR_found al ⟨ya, rs⟩)
 clear hLb
 generalize adR al ⟨ya, rs⟩ = q at *
 obtain ⟨L, seven⟩ := q
 simp only at hLn HLB HAF
 obtain ⟨k0, k1⟩ := two_at KX
 go_wp2_with fail
 refine (HA1.out _ (D.ltblC (by omega)) (XT.out _ _ CR)).mono ?_
 rintro e w12 ⟨O1, o1, rfl, E1, b12⟩
 clear k0 k1; simp only at E1
 replace C1 := C1.below b12
 replace C2 := C2.below b12
 replace K1 := keepHF b12 K1
 replace K2 := keepHF b12 K2
 replace X1 := X1.below b12
 replace X2 := X2.below b12
 replace D := D.below b12
 replace CR := CR.below b12
 replace KX := keepHF b12 KX
 have t12 := belowGo t11 b12
 clear b12 t11
 obtain ⟨k0, k1⟩ := two_at KX
 go_wp2_with fail
 refine (HA2.out _ (D.ltblC (by omega)) (XT.out _ _ CR)).mono ?_
 rintro e w13 ⟨O2, o2, rfl, E2, b13⟩
 clear k0 k1; simp only at E2
 clear D
 clear CR
 replace C1 := C1.below b13
 replace C2 := C2.below b13
 replace K1 := keepHF b13 K1
 replace K2 := keepHF b13 K2
 replace X1 := X1.below b13
 replace X2 := X2.below b13
 replace KX := keepHF b13 KX
 replace E1 := E1.below b13
 have t13 := belowGo t12 b13
 clear b13 t12
 clear HA1 HA2 XT
 go_wp2_with fail
 refine (drawMEd A c bs _ (h0.below t13)).mono ?_
 rintro e w14 ⟨B5, d5, ks, ms, ym, x, rfl, hlm, hym, hx, D, b14⟩
 replace C1 := C1.below b14
 replace C2 := C2.below b14
 replace K1 := keepHF b14 K1
 replace K2 := keepHF b14 K2
 replace X1 := X1.below b14
 replace X2 := X2.below b14
 replace KX := keepHF b14 KX
 replace E1 := E1.below b14
 replace E2 := E2.below b14
 have t14 := belowGo t13 b14
 clear b14 t13
 have KC := heap_alloc_new w14 (.cells #[.string ⟨x.c.toArray⟩, .int .i64 x.k, .int .i64 x.p, .int .i64 x.v, .int .i64 x.r, .int .i64 x.e, .string ⟨x.t.toArray⟩] 47)
 have bx := below_alloc w14 (.cells #[.string ⟨x.c.toArray⟩, .int .i64 x.k, .int .i64 x.p, .int .i64 x.v, .int .i64 x.r, .int .i64 x.e, .string ⟨x.t.toArray⟩] 47)
 replace C1 := C1.below bx
 replace C2 := C2.below bx
 replace K1 := keepHF bx K1
 replace K2 := keepHF bx K2
 replace X1 := X1.below bx
 replace X2 := X2.below bx
 replace KX := keepHF bx KX
 replace E1 := E1.below bx
 replace E2 := E2.below bx
 replace D := D.below bx
 replace t14 := belowGo t14 bx
 clear bx
 have hxs : x.sz <= 1048600 := by unfold Cls.sz; have := hx.1; have := hx.2; omega
 have HM1 := Lib.hid (fun W (h : LTblC W B5 d5 ms) => amend_i B5 d5 ms ym x W h.tbl hxs)
 have HM2 := Lib.hid (fun W (h : LTblC W B5 d5 ms) => amend_s B5 d5 ms ym x W h.tbl hxs)
 have HMB := Lib.hid (amR_bd ms ym x)
 have hml := amR_len ms ym x
 generalize amR ms ym x = q at *
 obtain ⟨M, nine⟩ := q
 simp only at hml HMB
 obtain ⟨k0, k1, k2, k3, k4, k5', k6⟩ := seven_at KC
 go_wp2_with fail
 refine (HM1.out _ (D.ltblC (by omega))).mono ?_
 rintro e w15 ⟨O3, o3, rfl, E3, b15⟩
 clear k0 k1 k2 k3 k4 k5' k6; simp only at E3
 replace C1 := C1.below b15
 replace C2 := C2.below b15
 replace K1 := keepHF b15 K1
 replace K2 := keepHF b15 K2
 replace X1 := X1.below b15
 replace X2 := X2.below b15
 replace KX := keepHF b15 KX
 replace E1 := E1.below b15
 replace E2 := E2.below b15
 replace D := D.below b15
 replace KC := keepHF b15 KC
 have t15 := belowGo t14 b15
 clear b15 t14
 obtain ⟨k0, k1, k2, k3, k4, k5', k6⟩ := seven_at KC
 go_wp2_with fail
 refine (HM2.out _ (D.ltblC (by omega))).mono ?_
 rintro e w16 ⟨O4, o4, rfl, E4, b16⟩
 clear k0 k1 k2 k3 k4 k5' k6; simp only at E4
 clear D
 clear KC
 replace C1 := C1.below b16
 replace C2 := C2.below b16
 replace K1 := keepHF b16 K1
 replace K2 := keepHF b16 K2
 replace X1 := X1.below b16
 replace X2 := X2.below b16
 replace KX := keepHF b16 KX
 replace E1 := E1.below b16
 replace E2 := E2.below b16
 replace E3 := E3.below b16
 have t16 := belowGo t15 b16
 clear b16 t15
 clear HM1 HM2 hxs
 go_wp2_with fail
 refine (drawYO A c bs _ (h0.below t16)).mono ?_
 rintro e w17 ⟨B6, d6, us, zs, sy, rfl, hs2, hlz, D, b17⟩
 replace C1 := C1.below b17
 replace C2 := C2.below b17
 replace K1 := keepHF b17 K1
 replace K2 := keepHF b17 K2
 replace X1 := X1.below b17
 replace X2 := X2.below b17
 replace KX := keepHF b17 KX
 replace E1 := E1.below b17
 replace E2 := E2.below b17
 replace E3 := E3.below b17
 replace E4 := E4.below b17
 have t17 := belowGo t16 b17
 clear b17 t16
 have HY1 := Lib.hid (fun W (h : LTblC W B6 d6 zs) => yo_i B6 d6 zs sy W h.tbl)
 have HY2 := Lib.hid (fun W (h : LTblC W B6 d6 zs) => yo_s B6 d6 zs sy W h.tbl)
 have hyl := yo_len10 zs sy (by omega)
 have HLI := Lib.hid (fun W (h : LTblC W B6 d6 zs) => show Calls _ _ _ W (Gives W (.bool ((yoR zs sy).2 == 0))) from by rw [yo_code]; exact isLibI_i B6 d6 zs W h.tbl)
 generalize yoR zs sy = q at *
 obtain ⟨Y, ten⟩ := q
 simp only at hyl HLI
 go_wp2_with fail
 refine (HY1.out _ (D.ltblC (by omega))).mono ?_
 rintro e w18 ⟨I1, i1, rfl, Y1, b18⟩
 simp only at Y1
 replace C1 := C1.below b18
 replace C2 := C2.below b18
 replace K1 := keepHF b18 K1
 replace K2 := keepHF b18 K2
 replace X1 := X1.below b18
 replace X2 := X2.below b18
 replace KX := keepHF b18 KX
 replace E1 := E1.below b18
 replace E2 := E2.below b18
 replace E3 := E3.below b18
 replace E4 := E4.below b18
 replace D := D.below b18
 have t18 := belowGo t17 b18
 clear b18 t17
 go_wp2_with fail
 refine (HY2.out _ (D.ltblC (by omega))).mono ?_
 rintro e w19 ⟨I2, i2, rfl, Y2, b19⟩
 simp only at Y2
 replace C1 := C1.below b19
 replace C2 := C2.below b19
 replace K1 := keepHF b19 K1
 replace K2 := keepHF b19 K2
 replace X1 := X1.below b19
 replace X2 := X2.below b19
 replace KX := keepHF b19 KX
 replace E1 := E1.below b19
 replace E2 := E2.below b19
 replace E3 := E3.below b19
 replace E4 := E4.below b19
 replace D := D.below b19
 replace Y1 := Y1.below b19
 have t19 := belowGo t18 b19
 clear b19 t18
 clear HY1 HY2 h0
 obtain ⟨vt, hvt⟩ : ∃ v, (ten == 0) = v := ⟨_, rfl⟩
 rw [hvt] at HLI
 have n0 : (bad != bad) = false := by simp
 have n1 : (s != s) = false := by simp
 have n2 : (one != one) = false := by simp
 have n3 : (three != three) = false := by simp
 have n4 : (five != five) = false := by simp
 have n5 : (k5 != k5) = false := by simp
 have n6 : (seven != seven) = false := by simp
 have n7 : (nine != nine) = false := by simp
 have n8 : (ten != ten) = false := by simp
 have n9 : (vt != vt) = false := by simp
 have NN := fun W => neq_same10 W F
 obtain ⟨e0, e1, e2, e3, e4, e5, e6⟩ := seven_at K1
 obtain ⟨f0, f1, f2, f3, f4, f5, f6⟩ := seven_at K2
 go_wp2_with fail
 refine (likeT10 S1 S2 _ _ s1 s2 L0 _ X1.sr X2.sr rfl rfl (by omega)).mono ?_
 rintro e w20 ⟨rfl, b20⟩
 clear e0 e1 e2 e3 e4 e5 e6 f0 f1 f2 f3 f4 f5 f6 NN
 clear K1
 clear K2
 clear X1
 clear X2
 replace C1 := C1.below b20
 replace C2 := C2.below b20
 replace KX := keepHF b20 KX
 replace E1 := E1.below b20
 replace E2 := E2.below b20
 replace E3 := E3.below b20
 replace E4 := E4.below b20
 replace D := D.below b20
 replace Y1 := Y1.below b20
 replace Y2 := Y2.below b20
 have t20 := belowGo t19 b20
 clear b20 t19
 go_wp2_with fail
 refine (likeD10 O1 O2 _ _ o1 o2 L _ E1.reads E2.reads rfl rfl (by omega) (fun e he => by have := (HLB.out e he).1; omega)).mono ?_
 rintro e w21 ⟨rfl, b21⟩
 clear E2
 replace C1 := C1.below b21
 replace C2 := C2.below b21
 replace KX := keepHF b21 KX
 replace E1 := E1.below b21
 replace E3 := E3.below b21
 replace E4 := E4.below b21
 replace D := D.below b21
 replace Y1 := Y1.below b21
 replace Y2 := Y2.below b21
 have t21 := belowGo t20 b21
 clear b21 t20
 go_wp2_with fail
 refine (likeD10 O3 O4 _ _ o3 o4 M _ E3.reads E4.reads rfl rfl (by omega) (fun e he => by have := HMB.out e he; omega)).mono ?_
 rintro e w22 ⟨rfl, b22⟩
 clear E3
 clear E4
 replace C1 := C1.below b22
 replace C2 := C2.below b22
 replace KX := keepHF b22 KX
 replace E1 := E1.below b22
 replace D := D.below b22
 replace Y1 := Y1.below b22
 replace Y2 := Y2.below b22
 have t22 := belowGo t21 b22
 clear b22 t21
 go_wp2_with fail
 refine (likeI10 I1 I2 _ _ i1 i2 Y _ Y1.ir Y2.ir rfl rfl (by omega)).mono ?_
 rintro e w23 ⟨rfl, b23⟩
 clear Y1
 clear Y2
 replace C1 := C1.below b23
 replace C2 := C2.below b23
 replace KX := keepHF b23 KX
 replace E1 := E1.below b23
 replace D := D.below b23
 have t23 := belowGo t22 b23
 clear b23 t22
 go_wp2_with fail
 refine (HLI.out _ (D.ltblC (by omega))).mono ?_
 rintro e w24 ⟨rfl, b24⟩
 clear D
 replace C1 := C1.below b24
 replace C2 := C2.below b24
 replace KX := keepHF b24 KX
 replace E1 := E1.below b24
 have t24 := belowGo t23 b24
 clear b24 t23
 clear HLI HMB n0 n1 n2 n3 n4 n5 n6 n7 n8 n9
 by_cases hsv : seven = 0
 ·
  subst hsv
  obtain ⟨kk, hef, hkk⟩ := HAF.out rfl
  have hkl := (List.getElem?_eq_some_iff.1 hkk).1
  have HKK := Lib.hid hkk
  have HEV := Lib.hid (fun W (h : LTblC W O1 o1 L) => show Calls _ _ _ W (Gives W (.tuple #[.int .i64 (kk : Int), .int .i64 0])) from by have := ef_i O1 o1 L ya W h; rw [hef] at this; exact this)
  have HLT := Lib.hid (fun W lo hi (h : EdnO W lo hi O1 L.length o1 L) => ltblC_of h (fun e he q hq => by have := (HLB.out e he).2 q hq; omega) (fun e he => by have := (HLB.out e he).1; omega) (by omega))
  clear HAF hef hkk
  obtain ⟨k0, k1⟩ := two_at KX
  go_wp2_with fail
  refine (HEV.out _ (HLT.out _ _ _ E1)).mono ?_
  rintro e w25 ⟨rfl, b25⟩
  clear k0 k1
  replace C1 := C1.below b25
  replace C2 := C2.below b25
  replace KX := keepHF b25 KX
  replace E1 := E1.below b25
  have t25 := belowGo t24 b25
  clear b25 t24
  clear HEV HLT HLB
  have td := (t25).drew
  obtain ⟨b, off, e, a, cp, rfl, hbl, he, y0, y1, _⟩ := E1.reads.at hkl
  have hee : e = ⟨ya, rs⟩ := by have q := he.out; rw [HKK.out] at q; exact (Option.some.inj q).symm
  subst hee
  obtain ⟨k0, k1⟩ := two_at KX
  have na : (ya != ya) = false := by simp
  clear E1 he HKK
  go_wp2_with fail
  go_quiet (fail)
  replace C1 := fun j => C1.below (below_drewN w25 j)
  replace C2 := fun j => C2.below (below_drewN w25 j)
  replace t25 := fun j => belowGo t25 (below_drewN w25 j)
  clear y0 y1 k0 k1 KX td
  by_cases hbad : bad = 0
  ·
   subst hbad
   obtain ⟨hrb, HEE⟩ := HEF.out rfl
   have HCS := Lib.hid (HKS.out hrb)
   clear HKS HEF hrb
   go_wp2_with fail
   refine (HCS.out _ (HC1.out _ _ (C1 _))).mono ?_
   rintro e w26 ⟨S9, s9, rfl, X9, b26⟩
   clear X9
   replace C1 := (C1 _).below b26
   replace C2 := (C2 _).below b26
   have t26 := belowGo (t25 _) b26
   clear b26 t25
   clear HCS
   rcases HEE with ⟨rfl, rfl⟩ | ⟨rfl, rfl, hpq⟩
   ·
    clear HLC
    cases L0 with
    | nil =>
     go_wp2_with fail
     go_ret
     exact ⟨rfl, t26⟩
    | cons x0 L1 =>
     go_wp2_with fail
     go_ret
     exact ⟨rfl, t26⟩
   ·
    cases L0 with
    | nil =>
     by_cases hlen : ps.length = qs.length
     ·
      have hne : ((ps.length : Int) != (qs.length : Int)) = false := by rw [hlen]; simp
      clear hlen
      have HQ := Lib.hid (HLC.out _ (HC1.out _ _ C1) (HC2.out _ _ C2))
      rw [hpq] at HQ
      clear HLC hpq
      go_wp2_with (go_at_call 28; refine HQ.out.mono ?_; rintro e wz ⟨rfl, bz⟩; have tz := belowGo t26 bz)
      go_ret
      exact ⟨rfl, tz⟩
     ·
      have hne : ((ps.length : Int) != (qs.length : Int)) = true := bne_iff_ne.2 (by omega)
      clear HLC hpq
      go_wp2_with fail
      go_ret
      exact ⟨rfl, t26⟩
    | cons x0 L1 =>
     clear HLC hpq
     go_wp2_with fail
     go_ret
     exact ⟨rfl, t26⟩
  ·
   have hb2 : (bad != 0) = true := bne_iff_ne.2 hbad
   clear HEF HKS HLC
   go_wp2_with fail
   go_ret
   exact ⟨rfl, t25 _⟩
 ·
  have hsv2 : (seven == 0) = false := beq_eq_false_iff_ne.2 hsv
  clear HAF HLB E1 KX
  by_cases hbad : bad = 0
  ·
   subst hbad
   obtain ⟨hrb, HEE⟩ := HEF.out rfl
   have HCS := Lib.hid (HKS.out hrb)
   clear HKS HEF hrb
   go_wp2_with fail
   refine (HCS.out _ (HC1.out _ _ C1)).mono ?_
   rintro e w25 ⟨S9, s9, rfl, X9, b25⟩
   clear X9
   replace C1 := C1.below b25
   replace C2 := C2.below b25
   have t25 := belowGo t24 b25
   clear b25 t24
   clear HCS
   rcases HEE with ⟨rfl, rfl⟩ | ⟨rfl, rfl, hpq⟩
   ·
    clear HLC
    cases L0 with
    | nil =>
     go_wp2_with fail
     go_ret
     exact ⟨rfl, t25⟩
    | cons x0 L1 =>
     go_wp2_with fail
     go_ret
     exact ⟨rfl, t25⟩
   ·
    cases L0 with
    | nil =>
     by_cases hlen : ps.length = qs.length
     ·
      have hne : ((ps.length : Int) != (qs.length : Int)) = false := by rw [hlen]; simp
      clear hlen
      have HQ := Lib.hid (HLC.out _ (HC1.out _ _ C1) (HC2.out _ _ C2))
      rw [hpq] at HQ
      clear HLC hpq
      go_wp2_with (go_at_call 28; refine HQ.out.mono ?_; rintro e wz ⟨rfl, bz⟩; have tz := belowGo t25 bz)
      go_ret
      exact ⟨rfl, tz⟩
     ·
      have hne : ((ps.length : Int) != (qs.length : Int)) = true := bne_iff_ne.2 (by omega)
      clear HLC hpq
      go_wp2_with fail
      go_ret
      exact ⟨rfl, t25⟩
    | cons x0 L1 =>
     clear HLC hpq
     go_wp2_with fail
     go_ret
     exact ⟨rfl, t25⟩
  ·
   have hb2 : (bad != 0) = true := bne_iff_ne.2 hbad
   clear HEF HKS HLC
   go_wp2_with fail
   go_ret
   exact ⟨rfl, t24⟩
end Go.Proofs.YtjcklmhgjdmjoaaGreat
