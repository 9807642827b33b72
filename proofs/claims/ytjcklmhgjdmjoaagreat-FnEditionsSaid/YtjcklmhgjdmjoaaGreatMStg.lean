import Derived.Test.YtjcklmhgjdmjoaaGreatMHeld
import Derived.Test.YtjcklmhgjdmjoaaGreatMCal
import Derived.Laws.Append
import Derived.Test.YtjcklmhgjdmjoaaGreatMCha
import Derived.Test.YtjcklmhgjdmjoaaGreatClb
import Derived.Test.YtjcklmhgjdmjoaaGreatOwi
namespace Go.Proofs.YtjcklmhgjdmjoaaGreat
open Go.ChangeShapes Go.WideShapes Go.ChangeAt Go.RowKit
set_option linter.unusedVariables false
theorem own_monoS {w : World} {base base' : Nat} {e : TypeId} {size n : Nat} {v : Value} {xs : List Value} (h : w.ownsRow base e size v n xs) (hb : base' <= base) : w.ownsRow base' e size v n xs := by
 refine ⟨h.1, h.2.imp id ?_⟩
 rintro ⟨g, cap, cur, h1, h2, h3⟩
 exact ⟨g, cap, cur, h1, by omega, h3⟩
theorem run_append_nilS {P : Program} (w : World) (t ty e : TypeId) (i : TypeInfo) (ht : P.underlying t = some (.slice e)) (hi : P.info? e = some i) (O : Option Addr) (n q c : Nat) (h : n <= q) :
  (Builtin.append_ #[t, t] ty #[.slice O n q, .slice none 0 c]).run P w = .ok (.slice O n q) w := by
 cases O <;> simp [Builtin.append_, run_underlying ht, sizeOf, typeInfo, hi, Builtin.lenOf, h, run_firstCells_none, storeCells]
theorem own_roomS {w : World} {base : Nat} {e : TypeId} {size n q : Nat} {O : Option Addr} {xs : List Value} (h : w.ownsRow base e size (.slice O n q) n xs) : n <= q := by
 rcases h.2 with ⟨h1, h2⟩ | ⟨g, cap, cur, h1, _, _, h4, _⟩
 ·
  omega
 ·
  injection h1 with _ _ h3; omega
theorem run_append_makeS {P : Program} (w : World) (t u ty e : TypeId) (k : IntKind) (i : TypeInfo) (z : Value) (ht : P.underlying t = some (.slice e)) (hu : P.underlying u = some (.int k)) (hi : P.info? e = some i) (hz : i.zero = some z)
  (n : Nat) (h0 : 0 < n) (hs : 0 < i.size) (hn : n <= 1000) (hb : i.bytes <= 1000) :
  (Builtin.append_ #[t, u] ty #[.slice none 0 0, .int .i64 n]).run P w =
   .ok (.slice (some ⟨w.heap.size, 0, none⟩) n (grownCap w n 0 e)) (w.drew.alloc (.cells (Builtin.zeroCells z.cells n ++ Builtin.zeroCells z.cells (grownCap w n 0 e - n)) e)) := by
 have hw : IntKind.i64.wrap (n : Int) = (n : Int) := by rw [IntKind.wrap_i64]; omega
 have h1 : ¬ ((n : Int) < 0) := by omega
 have hm : n * i.bytes <= 1000 * 1000 := Nat.mul_le_mul hn hb
 have h2 : ¬ (281474976710656 < (n : Int) * (i.bytes : Int)) := by
  rw [<- Int.natCast_mul]; omega
 have h3 : n ≠ 0 := by omega
 have h63' : ¬ (9223372036854775807 < (n : Int)) := by omega
 have h5 : ¬ (n * i.size = 0) := Nat.ne_of_gt (Nat.mul_pos h0 hs)
 have h48' : ¬ (281474976710656 < Builtin.nextslicecap n 0 * i.bytes) := by rw [nextslicecap_zero h0]; omega
 simp [Builtin.append_, run_underlying ht, run_underlying hu, sizeOf, typeInfo, zeroValue, hi, hz, hw, h1, h2, h3, h5, h63', h48', Question.forced, run_firstCells_none, newRow, grownCap, asInt, asIntOf]
theorem wpList_append_makeS {P : Program} (w : World) {ops : Array Oper} {rest : List Oper} {o : Oper} {a : Act} {Q : Exit -> Act -> World -> Prop} (hgd : o.guard = none) (s x : Operand) (t u : TypeId)
  (ho : o.op = .call { callee := .builtin .append, args := #[s, x], argTypes := #[t, u] }) (n : Nat) (hs : a.eval s = .slice none 0 0) (hx : a.eval x = .int .i64 n) (v : Value) (w' : World)
  (hr : ∀ ty, (Builtin.append_ #[t, u] ty #[.slice none 0 0, .int .i64 n]).run P w = .ok v w') (h : wpList P ops Q rest (a.put o.dst v) w') : wpList P ops Q (o :: rest) a w := by
 refine wpList_plain hgd fun K hK => ?_
 unfold Oper.wp execOp
 simp only [ho, resolve, invoke, builtin, Sem.run_bind, Sem.run_pure, Result.andThen_ok, List.map_toArray, List.map_cons, List.map_nil, hs, hx, hr]
 exact hK _ _ h
theorem made_zeroS (w : World) (n : Nat) (base : Nat) (h0 : base <= w.heap.size) (hn : n <= 1000) (z : Array Value) (hz : z.size = 1) :
  (w.drew.alloc (.cells (Builtin.zeroCells z n ++ Builtin.zeroCells z (grownCap w n 0 9 - n)) 9)).ownsRow base 9 1 (.slice (some ⟨w.heap.size, 0, none⟩) 0 (grownCap w n 0 9)) 0 [] := by
 have hg := grownCap_ge w n 0 9
 have hm := grownCap_le_maxLen w n 0 9 (by unfold maxLen; omega)
 refine ⟨rfl, .inr ⟨w.heap.size, _, _, rfl, h0, heap_alloc_new w.drew _, Nat.zero_le _, hm, ?_, ?_⟩⟩
 ·
  rw [Array.size_append, size_zeroCells, size_zeroCells, hz]; omega
 ·
  simp
set_option maxRecDepth 100000 in
set_option maxHeartbeats 2000000 in
theorem grow0S (n : Nat) (w : World) (hn : n <= 1000) : Calls Tryz.prog 62 #[.slice none 0 0, .int .i64 n] w fun e w' =>
  ∃ A c, e = .returned (.slice A 0 c) /\ w'.ownsRow w.heap.size 9 1 (.slice A 0 c) 0 [] /\ Below w.heap.size w w' := by
 obtain ⟨i0, hi, hz0, hz1, hz2⟩ := info_parts strInfo
 by_cases h0 : 0 < n
 ·
  have hap := fun ty => run_append_makeS w 33 3 ty 9 .i64 i0 _ Tryz.underlying33 Tryz.underlying3 hi hz0 n h0 (by omega) hn (by omega)
  have hown := made_zeroS w n w.heap.size (Nat.le_refl _) hn #[.string ⟨#[]⟩] rfl
  have hb : Below w.heap.size w (w.drew.alloc (.cells (Builtin.zeroCells #[.string ⟨#[]⟩] n ++ Builtin.zeroCells #[.string ⟨#[]⟩] (grownCap w n 0 9 - n)) 9)) := (Below.refl _ _).drew.alloc (Nat.le_refl _) _
  go_enter Tryz.func62, Tryz.ntmps62
  go_wp2_with (at_builtin; refine wpList_append_makeS _ rfl (.tmp 20) (.tmp 21) 33 3 rfl n rfl rfl _ _ hap ?_)
  go_ret
  exact ⟨_, _, rfl, hown, hb⟩
 ·
  obtain rfl : n = 0 := by omega
  go_enter Tryz.func62, Tryz.ntmps62
  go_wp2_with fail
  go_ret
  exact ⟨none, 0, rfl, World.ownsRow_nil _ _ _ _, Below.refl _ _⟩
set_option maxRecDepth 100000 in
theorem wpList_append_rrS (w : World) {ops : Array Oper} {rest : List Oper} {o : Oper} {a : Act} {Q : Exit -> Act -> World -> Prop} (hgd : o.guard = none) (s x : Operand)
  (ho : o.op = .call { callee := .builtin .append, args := #[s, x], argTypes := #[33, 33] }) (base : Nat) (O : Option Addr) (n q : Nat) (xs : List Value) (hs : a.eval s = .slice O n q) (hown : w.ownsRow base 9 1 (.slice O n q) n xs)
  (A : Option Addr) (c : Nat) (l : List (List UInt8)) (hx : a.eval x = .slice A l.length c) (hR : Sr w A l) (hA : A = none ∨ ∃ b off, A = some ⟨b, off, none⟩) (h63 : n + l.length <= 1000) (hbase : base <= w.heap.size)
  (h : ∀ O' q' w', w'.ownsRow base 9 1 (.slice O' (n + l.length) q') (n + l.length) (xs ++ l.map encStr) -> Below base w w' -> wpList Tryz.prog ops Q rest (a.put o.dst (.slice O' (n + l.length) q')) w') :
  wpList Tryz.prog ops Q (o :: rest) a w := by
 obtain ⟨i0, hi, hz0, hz1, hz2⟩ := info_parts strInfo
 rcases hA with rfl | ⟨b, off, rfl⟩
 ·
  have hl : l = [] := by
   cases l with
   | nil => rfl
   | cons y l => obtain ⟨_, _, _, e, _⟩ := hR.at (k := 0) (by simp); cases e
  subst hl
  have hr := fun ty => run_append_nilS (P := Tryz.prog) w 33 ty 9 i0 Tryz.underlying33 hi O n q c (own_roomS hown)
  refine wpList_plain hgd fun K hK => ?_
  unfold Oper.wp execOp
  have hx' : a.eval x = .slice none 0 c := hx
  simp only [ho, resolve, invoke, builtin, Sem.run_bind, Sem.run_pure, Result.andThen_ok, List.map_toArray, List.map_cons, List.map_nil, hs, hx', hr]
  exact hK _ _ (h O q w (by simpa using hown) (Below.refl _ _))
 ·
  refine wpList_append_own w hgd s x 33 ho base 9 i0 _ 1 16 Tryz.underlying33 hi hz0 hz1 hz2 rfl (by decide) _ n xs hs hown ⟨b, off, none⟩ l.length c (l.map encStr) hx (by simp) ?_ ?_ (by unfold maxLen; omega) (by omega) hbase ?_
  ·
   intro j u hu
   have hp : 0 < (l.map encStr).length := by have := (List.getElem?_eq_some_iff.1 hu).1; omega
   obtain ⟨b', off', e, _, hc⟩ := hR hp
   simp only [Option.some.injEq, Addr.mk.injEq, and_true] at e
   obtain ⟨rfl, rfl⟩ := e
   rw [show ((⟨b, off, none⟩ : Addr).add j) = ⟨b, off + j, none⟩ from by unfold Addr.add; split <;> simp_all]
   exact hc j u hu
  ·
   intro u hu
   obtain ⟨y, _, rfl⟩ := List.mem_map.1 hu
   simp [encStr, Value.oneCell']
  ·
   intro v' w' h2 h3 h4
   obtain ⟨O', q', rfl⟩ := own_form h2
   exact h O' q' w' h2 ((Below.refl base w).grown h3 hbase (fun k hk => (hown.lt k hk).1))
structure PiecesS (w : World) (g : Nat) (ss : List (Option Addr × Nat × List (List UInt8))) : Prop where
 lt : g < w.heap.size
 cell : ∀ (k : Nat) (s : Option Addr × Nat × List (List UInt8)), ss[k]? = some s -> w.cell? ⟨g, k, none⟩ = some (.slice s.1 s.2.2.length s.2.1)
 row : ∀ s ∈ ss, Sr w s.1 s.2.2 /\ (s.1 = none ∨ ∃ b off, s.1 = some ⟨b, off, none⟩)
theorem PiecesS.below {w w' : World} {g : Nat} {ss : List (Option Addr × Nat × List (List UInt8))} (h : PiecesS w g ss) (hb : Below w.heap.size w w') : PiecesS w' g ss :=
 ⟨Nat.lt_of_lt_of_le h.lt hb.size, fun k s hs => (hb.cell (p := ⟨g, k, none⟩) h.lt).trans (h.cell k s hs), fun s hs => ⟨(h.row s hs).1.below hb, (h.row s hs).2⟩⟩
def joinS (ss : List (Option Addr × Nat × List (List UInt8))) : List (List UInt8) := ss.flatMap (·.2.2)
theorem joinP_snocS (ss : List (Option Addr × Nat × List (List UInt8))) (s : Option Addr × Nat × List (List UInt8)) : joinS (ss ++ [s]) = joinS ss ++ s.2.2 := by simp [joinS]
theorem joinP_leS (ss : List (Option Addr × Nat × List (List UInt8))) (k : Nat) : (joinS (ss.take k)).length <= (joinS ss).length := by
 have : joinS ss = joinS (ss.take k) ++ joinS (ss.drop k) := by unfold joinS; rw [<- List.flatMap_append, List.take_append_drop]
 rw [this, List.length_append]; omega
set_option maxRecDepth 100000 in
set_option maxHeartbeats 4000000 in
theorem concat_iS (g : Nat) (ss : List (Option Addr × Nat × List (List UInt8))) (c : Nat) (w : World) (h : PiecesS w g ss) (hn : ss.length <= 10) (hj : (joinS ss).length <= 900) :
  Calls Tryz.prog 36 #[.slice (some ⟨g, 0, none⟩) ss.length c] w fun e w' =>
   ∃ O q, e = .returned (.slice O (joinS ss).length q) /\ Ost w' w.heap.size O (joinS ss).length q (joinS ss) /\ Below w.heap.size w w' := by
 go_enter Tryz.func36, Tryz.ntmps36
 go_wp2_with fail
 go_loopw [3, 11] (fun z i wr => ∃ (k m : Nat), k <= ss.length /\ i = .int .i64 k /\ z = .int .i64 m /\ Hid (m = (joinS (ss.take k)).length) /\ Below w.heap.size w wr) (fun _ i _ => ss.length - (intOf i).toNat)
 case atStart => exact ⟨0, 0, Nat.zero_le _, rfl, rfl, Lib.hid rfl, Below.refl _ _⟩
 case round =>
  obtain ⟨k, m, hk, rfl, rfl, hm, hb⟩ := hrel
  have hml : m <= 900 := by have := joinP_leS ss k; rw [hm.out]; omega
  by_cases hlt : k < ss.length
  ·
   obtain ⟨s, hs⟩ : ∃ s, ss[k]? = some s := ⟨ss[k], by simp [hlt]⟩
   have hc := (h.below hb).cell k s hs
   have HM : Hid (m + s.2.2.length = (joinS (ss.take (k + 1))).length) := Lib.hid (by rw [snoc_of hs, joinP_snocS, List.length_append, hm.out])
   have hle : m + s.2.2.length <= 900 := by have := joinP_leS ss (k + 1); rw [HM.out]; omega
   obtain ⟨A, cc, l⟩ := s
   simp only at hc hle HM
   clear hs hm h
   go_wp2_with fail
   go_roundw
   case rel => exact ⟨k + 1, m + l.length, by omega, by go_num, by go_num, HM, hb⟩
   case measure => simp [intOf]; omega
  ·
   have hM : Hid (m = (joinS ss).length) := Lib.hid (by have := hm.out; rwa [take_all hk hlt] at this)
   have HP := Lib.hid (fun W hW => h.below (w' := W) hW)
   clear hm h
   go_wp2_with (go_at_call 62; refine (grow0S m _ (by omega)).mono ?_; rintro e w1 ⟨O1, q1, rfl, hown1, b1⟩)
   have hb1 := hb.trans (b1.mono hb.size)
   have hw : w.heap.size <= wr.heap.size := hb.size
   have hw2 : wr.heap.size <= w1.heap.size := b1.size
   clear hb b1
   obtain ⟨wz, hwz⟩ : ∃ x, x = wr := ⟨_, rfl⟩
   subst hwz
   go_loopw [6, 27] (fun o i wr => ∃ (k : Nat) (js : List (List UInt8)) (O : Option Addr) (q : Nat), k <= ss.length /\ i = .int .i64 k /\ o = .slice O js.length q /\ Hid (js = joinS (ss.take k)) /\ wr.ownsRow wz.heap.size 9 1 (.slice O js.length q) js.length (js.map encStr) /\ Below wz.heap.size w1 wr) (fun _ i _ => ss.length - (intOf i).toNat)
   case atStart => exact ⟨0, [], O1, q1, Nat.zero_le _, rfl, rfl, Lib.hid rfl, hown1, Below.refl _ _⟩
   case round =>
    obtain ⟨k', js, O, q, hk', rfl, rfl, hjs, hrow, hB⟩ := hrel
    by_cases hlt' : k' < ss.length
    ·
     obtain ⟨s, hs⟩ : ∃ s, ss[k']? = some s := ⟨ss[k'], by simp [hlt']⟩
     have hP := HP.out wr (hb1.trans (hB.mono hw))
     have hc := hP.cell k' s hs
     obtain ⟨hR, hA⟩ := hP.row s (List.mem_of_getElem? hs)
     have HM : Hid (js ++ s.2.2 = joinS (ss.take (k' + 1))) := Lib.hid (by rw [snoc_of hs, joinP_snocS, hjs.out])
     have hle : js.length + s.2.2.length <= 900 := by have := joinP_leS ss (k' + 1); rw [<- HM.out, List.length_append] at this; omega
     obtain ⟨A, cc, l⟩ := s
     simp only at hc hle HM hR hA
     have hsz : wz.heap.size <= wr.heap.size := Nat.le_trans hw2 hB.size
     clear hs hjs HP hP hM
     go_wp2_with (at_builtin; refine wpList_append_rrS _ rfl (.tmp 31) (.tmp 32) rfl wz.heap.size O js.length q _ rfl hrow A cc l rfl hR hA (by omega) hsz ?_; intro O' q' w' hown' hb')
     go_roundw
     case rel => exact ⟨k' + 1, js ++ l, O', q', by omega, by go_num, by rw [List.length_append], HM, by rw [List.length_append, List.map_append]; exact hown', hB.trans hb'⟩
     case measure => simp [intOf]; omega
    ·
     have hJ : Hid (js = joinS ss) := Lib.hid (by have := hjs.out; rwa [take_all hk' hlt'] at this)
     clear hjs HP hM
     go_wp2_with fail
     go_ret
     rw [<- hJ.out]
     exact ⟨O, q, rfl, own_monoS hrow hw, hb1.trans (hB.mono hw)⟩
theorem pieces2S {w : World} {A1 A2 : Option Addr} {c1 c2 n1 n2 : Nat} {l1 l2 : List (List UInt8)} (h1 : Sr w A1 l1) (h2 : Sr w A2 l2) (a1 : A1 = none ∨ ∃ b off, A1 = some ⟨b, off, none⟩) (a2 : A2 = none ∨ ∃ b off, A2 = some ⟨b, off, none⟩) (e1 : l1.length = n1) (e2 : l2.length = n2) :
  PiecesS (w.alloc (.cells #[.slice A1 n1 c1, .slice A2 n2 c2] 33)) w.heap.size [(A1, c1, l1), (A2, c2, l2)] := by
 subst e1 e2
 refine ⟨by simp, ?_, ?_⟩
 ·
  intro k s hs
  rw [cell_of_row _ _ _ _ _ _ (heap_alloc_new w _)]
  match k, hs with
  | 0, hs => simp at hs; subst hs; rfl
  | 1, hs => simp at hs; subst hs; rfl
  | k + 2, hs => simp at hs
 ·
  intro s hs
  simp only [List.mem_cons, List.not_mem_nil, or_false] at hs
  rcases hs with rfl | rfl
  ·
   exact ⟨h1.below (below_alloc _ _), a1⟩
  ·
   exact ⟨h2.below (below_alloc _ _), a2⟩
theorem concat_qS {g : Nat} {ss : List (Option Addr × Nat × List (List UInt8))} {n c : Nat} {w : World} {L : List (List UInt8)} (h : PiecesS w g ss) (hn : ss.length = n) (hn2 : n <= 10) (hL : joinS ss = L) (hj : L.length <= 900) :
  Calls Tryz.prog 36 #[.slice (some ⟨g, 0, none⟩) n c] w fun e w' => ∃ O q, e = .returned (.slice O L.length q) /\ Ost w' w.heap.size O L.length q L /\ Below w.heap.size w w' := by
 subst hL hn
 exact concat_iS g ss c w h hn2 hj
end Go.Proofs.YtjcklmhgjdmjoaaGreat

namespace Go.Proofs.YtjcklmhgjdmjoaaGreat
open Go.ChangeShapes Go.WideShapes Go.ChangeAt Go.RowKit
set_option linter.unusedVariables false
theorem eql_cls (W : World) (p q : Cls) : (binOp .eql 47 (.agg #[.string ⟨p.c.toArray⟩, .int .i64 p.k, .int .i64 p.p, .int .i64 p.v, .int .i64 p.r, .int .i64 p.e, .string ⟨p.t.toArray⟩]) (.agg #[.string ⟨q.c.toArray⟩, .int .i64 q.k, .int .i64 q.p, .int .i64 q.v, .int .i64 q.r, .int .i64 q.e, .string ⟨q.t.toArray⟩])).run Tryz.prog W = .ok (.bool (clB p q)) W := by
 rw [run_eql_struct]
 exact (congrArg (fun r => Result.andThen r _) (eqIn_cls W p q)).trans rfl
set_option maxRecDepth 100000 in
set_option maxHeartbeats 4000000 in
theorem index_cl (A : Option Addr) (c : Nat) (ps : List Cls) (p : Cls) (w : World) (hR : ClsR w A ps) (hn : ps.length <= 1000000000) :
  Calls Tryz.prog 85 #[.slice A ps.length c, .agg #[.string ⟨p.c.toArray⟩, .int .i64 p.k, .int .i64 p.p, .int .i64 p.v, .int .i64 p.r, .int .i64 p.e, .string ⟨p.t.toArray⟩]] w (Gives w (.int .i64 (idxI (fun q => clB p q) ps))) := by
 have kc := KeepC.new w p
 have HR := Lib.hid (fun W (b : Below w.heap.size w W) => hR.below b)
 clear hR
 go_enter Tryz.func85, Tryz.ntmps85
 go_wp2_with fail
 go_loopw [8] (fun i wr => ∃ k : Nat, k <= ps.length /\ i = .int .i64 k /\ Hid (∀ (j : Nat) (q : Cls), j < k -> ps[j]? = some q -> clB p q = false) /\ KeepC w p wr) (fun i _ => ps.length - (intOf i).toNat)
 case atStart => exact ⟨0, Nat.zero_le _, rfl, Lib.hid fun j q hj => by omega, kc⟩
 case round =>
  clear kc
  obtain ⟨k, hk, rfl, hno, kc⟩ := hrel
  by_cases hlt : k < ps.length
  ·
   obtain ⟨b, off, q, rfl, hl, hq, h4⟩ := (HR.out wr kc.bel).at hlt
   have q0 : ∀ y : Sub (Bel wr), y.w.cell? ⟨b, off + k * 7, none⟩ = some (.string ⟨q.c.toArray⟩) := fun y => (h4.below hl y.h).c0
   have q1 : ∀ y : Sub (Bel wr), y.w.cell? ⟨b, off + k * 7 + 1, none⟩ = some (.int .i64 q.k) := fun y => (h4.below hl y.h).c1
   have q2 : ∀ y : Sub (Bel wr), y.w.cell? ⟨b, off + k * 7 + 2, none⟩ = some (.int .i64 q.p) := fun y => (h4.below hl y.h).c2
   have q3 : ∀ y : Sub (Bel wr), y.w.cell? ⟨b, off + k * 7 + 3, none⟩ = some (.int .i64 q.v) := fun y => (h4.below hl y.h).c3
   have q4 : ∀ y : Sub (Bel wr), y.w.cell? ⟨b, off + k * 7 + 4, none⟩ = some (.int .i64 q.r) := fun y => (h4.below hl y.h).c4
   have q5 : ∀ y : Sub (Bel wr), y.w.cell? ⟨b, off + k * 7 + 5, none⟩ = some (.int .i64 q.e) := fun y => (h4.below hl y.h).c5
   have q6 : ∀ y : Sub (Bel wr), y.w.cell? ⟨b, off + k * 7 + 6, none⟩ = some (.string ⟨q.t.toArray⟩) := fun y => (h4.below hl y.h).c6
   have r0 : ∀ y : Sub (Bel wr), y.w.cell? ⟨w.heap.size, 0, none⟩ = some (.string ⟨p.c.toArray⟩) := fun y => (kc.step y.h).cells.c0
   have r1 : ∀ y : Sub (Bel wr), y.w.cell? ⟨w.heap.size, 1, none⟩ = some (.int .i64 p.k) := fun y => (kc.step y.h).cells.c1
   have r2 : ∀ y : Sub (Bel wr), y.w.cell? ⟨w.heap.size, 2, none⟩ = some (.int .i64 p.p) := fun y => (kc.step y.h).cells.c2
   have r3 : ∀ y : Sub (Bel wr), y.w.cell? ⟨w.heap.size, 3, none⟩ = some (.int .i64 p.v) := fun y => (kc.step y.h).cells.c3
   have r4 : ∀ y : Sub (Bel wr), y.w.cell? ⟨w.heap.size, 4, none⟩ = some (.int .i64 p.r) := fun y => (kc.step y.h).cells.c4
   have r5 : ∀ y : Sub (Bel wr), y.w.cell? ⟨w.heap.size, 5, none⟩ = some (.int .i64 p.e) := fun y => (kc.step y.h).cells.c5
   have r6 : ∀ y : Sub (Bel wr), y.w.cell? ⟨w.heap.size, 6, none⟩ = some (.string ⟨p.t.toArray⟩) := fun y => (kc.step y.h).cells.c6
   have HK := Lib.hid (fun y : Sub (Bel wr) => kc.step y.h)
   have N0 := fun W => eql_cls W p q
   obtain ⟨v, hv⟩ : ∃ v, clB p q = v := ⟨_, rfl⟩
   rw [hv] at N0
   cases v
   ·
    have HN : Hid (∀ (j : Nat) (q : Cls), j < k + 1 -> ps[j]? = some q -> clB p q = false) := Lib.hid fun j q hj hq2 => by
     rcases Nat.lt_or_ge j k with h1 | h1
     ·
      exact hno.out j q h1 hq2
     ·
      obtain rfl : j = k := by omega
      rw [hq.out] at hq2; rw [<- Option.some.inj hq2]; exact hv
    clear hno hq h4 hv kc
    go_wp2_with fail
    refine region_held (Bel wr) (by kernel_rfl) (by kernel_rfl) (Bel.drew wr) ?_
    repeat (go_big_quiet_step (first | rfl | exact N0 _))
    refine wpQuiet_nil ?_
    rintro _ ⟨y, rfl⟩
    go_wp2_with fail
    go_roundw
    case rel => exact ⟨k + 1, by omega, by go_num, HN, HK.out y⟩
    case measure => simp [intOf]; omega
   ·
    have E : Hid (idxI (fun q => clB p q) ps = (k : Int)) := Lib.hid (idxI_some hq.out hv hno.out)
    clear hno hq h4 hv kc
    go_wp2_with fail
    refine region_held (Bel wr) (by kernel_rfl) (by kernel_rfl) (Bel.drew wr) ?_
    repeat (go_big_quiet_step (first | rfl | exact N0 _))
    refine wpQuiet_nil ?_
    rintro _ ⟨y, rfl⟩
    go_wp2_with fail
    go_ret
    exact ⟨by rw [E.out] <;> rfl, (HK.out y).bel⟩
  ·
   have E : Hid (idxI (fun q => clB p q) ps = -1) := Lib.hid (idxI_none fun j q hq => hno.out j q (by have := (List.getElem?_eq_some_iff.1 hq).1; omega) hq)
   have hbw := Lib.hid kc.bel
   clear hno kc
   go_wp2_with fail
   go_ret
   exact ⟨by rw [E.out] <;> rfl, hbw.out⟩
theorem cont_cl (A : Option Addr) (c : Nat) (ps : List Cls) (p : Cls) (w : World) (hR : ClsR w A ps) (hn : ps.length <= 1000000000) {v : Bool} (hv : outC ps p = !v) :
  Calls Tryz.prog 63 #[.slice A ps.length c, .agg #[.string ⟨p.c.toArray⟩, .int .i64 p.k, .int .i64 p.p, .int .i64 p.v, .int .i64 p.r, .int .i64 p.e, .string ⟨p.t.toArray⟩]] w (Gives w (.bool v)) := by
 have kc := KeepC.new w p
 have HI := Lib.hid (index_cl A c ps p _ (hR.below kc.bel) hn)
 have hd : decide (0 <= idxI (fun q => clB p q) ps) = v := by
  have h1 : decide (0 <= idxI (fun q => clB p q) ps) = ps.any (fun q => clB p q) := by
   unfold idxI
   cases h : ps.findIdx? (fun q => clB p q) with
   | none =>
    rw [List.findIdx?_eq_none_iff] at h
    have : ps.any (fun q => clB p q) = false := by rw [List.any_eq_false]; intro x hx; rw [h x hx]; exact Bool.false_ne_true
    rw [this]; decide
   | some k =>
    obtain ⟨hl, hk, _⟩ := List.findIdx?_eq_some_iff_getElem.1 h
    have : ps.any (fun q => clB p q) = true := by rw [List.any_eq_true]; exact ⟨_, List.getElem_mem hl, hk⟩
    rw [this]; simp
  unfold outC at hv
  rw [h1]
  revert hv
  cases ps.any (fun q => clB p q) <;> cases v <;> simp
 have HB := Lib.hid kc.bel
 have r0 := kc.cells.c0; have r1 := kc.cells.c1; have r2 := kc.cells.c2; have r3 := kc.cells.c3; have r4 := kc.cells.c4; have r5 := kc.cells.c5; have r6 := kc.cells.c6
 clear hR kc hv
 generalize idxI (fun q => clB p q) ps = r at *
 go_enter Tryz.func63, Tryz.ntmps63
 go_wp2_with fail
 refine HI.out.mono ?_
 rintro e w1 ⟨rfl, b1⟩
 go_wp2_with fail
 go_ret
 exact ⟨by rw [<- hd] <;> rfl, belowGo HB.out b1⟩
theorem made0K (w : World) (base : Nat) (e : TypeId) (size : Nat) (hb : base <= w.heap.size) : (w.alloc (Obj.cells #[] e)).ownsRow base e size (.slice (some ⟨w.heap.size, 0, none⟩) 0 0) 0 [] :=
 World.ownsRow_made w #[] 0 hb (by decide) (by simp)
set_option maxRecDepth 100000 in
set_option maxHeartbeats 4000000 in
theorem only_i (A B : Option Addr) (c d : Nat) (ps qs : List Cls) (w : World) (ha : ClsR w A ps) (hb0 : ClsR w B qs) (hn : ps.length <= 1000) (hn2 : qs.length <= 1000) :
  Calls Tryz.prog 37 #[.slice A ps.length c, .slice B qs.length d] w fun e w' => ∃ O q, e = .returned (.slice O (onlyC ps qs).length q) /\ Ost w' w.heap.size O (onlyC ps qs).length q (onlyC ps qs) /\ Below w.heap.size w w' := by
 obtain ⟨i0, hi, hz0, hz1, hz2⟩ := info_parts strInfo
 have HA := Lib.hid (fun W (b : Below w.heap.size w W) => ha.below b)
 have HB0 := Lib.hid (fun W (b : Below w.heap.size w W) => hb0.below b)
 clear ha hb0
 go_enter Tryz.func37, Tryz.ntmps37
 go_wp2_with fail
 go_loopw [5, 11] (fun o i wr => ∃ (k : Nat) (ys : List (List UInt8)), k <= ps.length /\ i = .int .i64 k /\ wr.ownsRow w.heap.size 9 1 o ys.length (ys.map encStr) /\ Hid (ys = onlyC (ps.take k) qs) /\ Below w.heap.size w wr) (fun _ i _ => ps.length - (intOf i).toNat)
 case atStart => exact ⟨0, [], Nat.zero_le _, rfl, made0K _ _ _ _ (Nat.le_refl _), Lib.hid rfl, (Below.refl _ _).alloc (Nat.le_refl _) _⟩
 case round =>
  obtain ⟨k, ys, hk, rfl, hown, hys, hb⟩ := hrel
  obtain ⟨O, q, rfl⟩ := own_form hown
  have hyl : ys.length <= k := by rw [hys.out]; have := only_len (ps.take k) qs; rw [List.length_take] at this; omega
  by_cases hlt : k < ps.length
  ·
   obtain ⟨b, off, p, rfl, hl, hp, h4⟩ := (HA.out wr hb).at hlt
   have c0 := h4.c0; have c1 := h4.c1; have c2 := h4.c2; have c3 := h4.c3; have c4 := h4.c4; have c5 := h4.c5; have c6 := h4.c6
   have kc := KeepC.new wr p
   have HS := Lib.hid (out_snoc (ps.take k) qs p)
   rw [<- snoc_of hp.out, <- hys.out] at HS
   obtain ⟨v, hv⟩ : ∃ v, outC qs p = !v := ⟨!outC qs p, by simp⟩
   have HC := Lib.hid (cont_cl B d qs p _ ((HB0.out wr hb).below kc.bel) (by omega) hv)
   have HB1 := Lib.hid (belowGo hb kc.bel)
   have HO1 := Lib.hid (own_below hown kc.bel)
   have r0 := kc.cells.c0; have r1 := kc.cells.c1; have r2 := kc.cells.c2; have r3 := kc.cells.c3; have r4 := kc.cells.c4; have r5 := kc.cells.c5; have r6 := kc.cells.c6
   have KC := Lib.hid kc
   rw [hv] at HS
   clear h4 hp hys hv kc hown
   cases v
   ·
    have HS2 : Hid (ys ++ [p.c] = onlyC (ps.take (k + 1)) qs) := Lib.hid HS.out.symm
    clear HS
    go_wp2_with fail
    refine HC.out.mono ?_
    rintro e w2 ⟨rfl, b2⟩
    have hown2 := own_below HO1.out b2
    have hb2 := belowGo HB1.out b2
    have s0 := (KC.out.step b2).cells.c0
    clear r0 r1 r2 r3 r4 r5 r6 b2 HC HB1 HO1 KC
    go_wp2_with (at_builtin; refine wpList_push _ rfl (.tmp 19) (.tmp 22) 33 rfl w.heap.size 9 i0 _ 1 16 Tryz.underlying33 hi hz0 hz1 hz2 rfl (by decide) _ ys.length _ rfl hown2 [.string ⟨p.c.toArray⟩] rfl (by simp [Value.oneCell']) rfl (by unfold maxLen; omega) (by omega) hb2.size ?_; intro v' w' hown' hb')
    go_roundw
    case rel => exact ⟨k + 1, ys ++ [p.c], by omega, by go_num, by simpa [encStr] using hown', HS2, hb2.trans hb'⟩
    case measure => simp [intOf]; omega
   ·
    have HS2 : Hid (ys = onlyC (ps.take (k + 1)) qs) := Lib.hid HS.out.symm
    clear HS
    go_wp2_with fail
    refine HC.out.mono ?_
    rintro e w2 ⟨rfl, b2⟩
    have hown2 := own_below HO1.out b2
    have hb2 := belowGo HB1.out b2
    clear r0 r1 r2 r3 r4 r5 r6 b2 HC HB1 HO1 KC
    go_wp2_with fail
    go_roundw
    case rel => exact ⟨k + 1, ys, by omega, by go_num, hown2, HS2, hb2⟩
    case measure => simp [intOf]; omega
  ·
   have HY : Hid (ys = onlyC ps qs) := Lib.hid (by rw [hys.out, take_all hk hlt])
   clear hys
   go_wp2_with fail
   go_ret
   rw [<- HY.out]
   exact ⟨O, q, rfl, hown, hb⟩
theorem own_adr {w : World} {base n q size : Nat} {e : TypeId} {O : Option Addr} {xs : List Value} (h : w.ownsRow base e size (.slice O n q) n xs) : O = none ∨ ∃ b off, O = some ⟨b, off, none⟩ := by
 rcases h.2 with ⟨h1, _⟩ | ⟨g, _, _, h1, _⟩
 ·
  injection h1 with h1; exact .inl h1
 ·
  injection h1 with h1; exact .inr ⟨_, _, h1⟩
set_option maxRecDepth 100000 in
set_option maxHeartbeats 4000000 in
theorem cc_i (A B : Option Addr) (c d : Nat) (ps qs : List Cls) (w : World) (ha : CTbl w A ps) (hb : CTbl w B qs) :
  Calls Tryz.prog 10 #[.slice A ps.length c, .slice B qs.length d] w (NewStrsC w (ccR ps qs)) := by
 rcases Bool.eq_false_or_eq_true (rbB ps) with h | h
 ·
  have HA := Lib.hid (isRb_i A c ps w ha)
  rw [h] at HA
  rcases Bool.eq_false_or_eq_true (rbB qs) with h1 | h1
  ·
   have HB := Lib.hid (fun W (b : Below w.heap.size w W) => isRb_i B d qs W (hb.below b))
   rw [h1] at HB
   have E := Lib.hid (ccR_ok h h1)
   have l1 := (rb_of h).hi
   have l2 := (rb_of h1).hi
   have HE := Lib.hid (only_eq (rb_of h) (rb_of h1))
   have H1 := Lib.hid (fun W (b : Below w.heap.size w W) => only_i A B c d ps qs W (ha.row.below b) (hb.row.below b) (by omega) (by omega))
   have H2 := Lib.hid (fun W (b : Below w.heap.size w W) => only_i B A d c qs ps W (hb.row.below b) (ha.row.below b) (by omega) (by omega))
   have m1 := only_len ps qs
   have m2 := only_len qs ps
   clear h h1 ha hb
   generalize onlyC ps qs = xs at *
   generalize onlyC qs ps = zs at *
   go_enter Tryz.func10, Tryz.ntmps10
   go_wp2_with fail
   refine HA.out.mono ?_
   rintro e w1 ⟨rfl, b1⟩
   go_wp2_with fail
   refine (HB.out _ b1).mono ?_
   rintro e w2 ⟨rfl, b2⟩
   have t2 := belowGo b1 b2
   go_wp2_with fail
   refine (H1.out _ t2).mono ?_
   rintro e w3 ⟨O1, q1, rfl, o1, b3⟩
   have t3 := belowGo t2 b3
   go_wp2_with fail
   refine (H2.out _ t3).mono ?_
   rintro e w4 ⟨O2, q2, rfl, o2, b4⟩
   have t4 := belowGo t3 b4
   have HCQ := Lib.hid (concat_qS (g := w4.heap.size) (n := 2) (c := 2) (L := xs ++ zs) (pieces2S (w := w4) (c1 := q1) (c2 := q2) (o1.below b4).sr o2.sr (own_adr o1) (own_adr o2) rfl rfl) rfl (by decide) (by simp [joinS]) (by rw [List.length_append]; omega))
   have t5 := belowGo t4 (below_alloc w4 (.cells #[.slice O1 xs.length q1, .slice O2 zs.length q2] 33))
   clear o1 o2 b3 b4 b1 b2 HA HB H1 H2 t2 t3 t4
   go_wp2_with fail
   refine HCQ.out.mono ?_
   rintro e w6 ⟨O, q, rfl, o6, b6⟩
   have t6 := belowGo t5 b6
   obtain ⟨ys, hys⟩ : ∃ ys, ys = xs ++ zs := ⟨_, rfl⟩
   rw [<- hys] at o6 HE ⊢
   have HY : Hid (ownU (chgL ps qs) = Lib.compact (ys.mergeSort fun x y => decide (x <= y))) := Lib.hid (by rw [compact_sort, HE.out])
   have o6' : Ost w6 w.heap.size O ys.length q ys := own_monoS o6 t5.size
   have hyl : ys.length <= 1000 := by rw [hys, List.length_append]; omega
   have HSO := Lib.hid (sort_iO O q ys w.heap.size w6 o6' (by omega))
   have HL := Lib.hid (fun k e => (World.ownsRow.lt o6' k e).1)
   have hsl : (ys.mergeSort fun x y => decide (x <= y)).length = ys.length := List.length_mergeSort _
   obtain ⟨vs, hvs⟩ : ∃ vs, vs = ys.mergeSort fun x y => decide (x <= y) := ⟨_, rfl⟩
   rw [<- hvs] at HY HSO hsl
   have HSL := Lib.hid hsl
   clear o6 o6' b6 t5 HE hys hvs HCQ hsl
   go_wp2_with fail
   refine HSO.out.mono ?_
   rintro e w7 ⟨rfl, o7, g7⟩
   have hb7 := t6.grown g7 t6.size HL.out
   have HC := Lib.hid (compact_iO O q vs w.heap.size w7 (by rw [HSL.out]; exact o7) (by rw [HSL.out]; omega))
   rw [HSL.out] at HC
   have HL2 := Lib.hid (fun k e => (World.ownsRow.lt o7 k e).1)
   clear o7 g7 t6
   go_wp2_with (go_at_call 39; refine HC.out.mono ?_; rintro e w8 ⟨rfl, o8, g8⟩)
   go_ret2
   rw [E.out, HY.out]
   exact ⟨O, q, rfl, o8, hb7.grown g8 hb7.size HL2.out⟩
  ·
   have HB := Lib.hid (fun W (b : Below w.heap.size w W) => isRb_i B d qs W (hb.below b))
   rw [h1] at HB
   have E := Lib.hid (@ccR_no ps qs (.inr h1))
   clear h h1 ha hb
   go_enter Tryz.func10, Tryz.ntmps10
   go_wp2_with fail
   refine HA.out.mono ?_
   rintro e w1 ⟨rfl, b1⟩
   go_wp2_with fail
   refine (HB.out _ b1).mono ?_
   rintro e w2 ⟨rfl, b2⟩
   go_wp2_with fail
   go_ret2
   rw [E.out]
   exact ⟨none, 0, rfl, Ost.nil _ _, belowGo b1 b2⟩
 ·
  have HA := Lib.hid (isRb_i A c ps w ha)
  rw [h] at HA
  have E := Lib.hid (@ccR_no ps qs (.inl h))
  clear h ha hb
  go_enter Tryz.func10, Tryz.ntmps10
  go_wp2_with fail
  refine HA.out.mono ?_
  rintro e w1 ⟨rfl, b1⟩
  go_wp2_with fail
  go_ret2
  rw [E.out]
  exact ⟨none, 0, rfl, Ost.nil _ _, b1⟩
end Go.Proofs.YtjcklmhgjdmjoaaGreat

