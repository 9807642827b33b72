/- (impl.rateBook).latest. -/
import Derived.Test.YtaehkkcaoniphaaBof
import Derived.Laws.Small
import Derived.Maps.OwnOps
import Derived.Laws.ResultCell
namespace Go.Proofs.Ytaehkkcaoniphaa
open Go.ChangeShapes Go.WideShapes Go.ChangeAt Go.RowKit
set_option linter.unusedVariables false

def nil0 : Rt := ⟨[], 0, 0, 0⟩
/-- What 'latest' returns: the rate of the greatest day that has come, and whether there is one. -/
def Latest (f : Int × Int → Option Rt) (N day : Int) (r : Rt) (ok : Bool) : Prop :=
  (ok = true ∧ ∃ g, f (N, g) = some r ∧ g ≤ day ∧ ∀ d, Wf (N, d) → (f (N, d)).isSome = true → d ≤ day → d ≤ g) ∨ (ok = false ∧ r = nil0 ∧ ∀ d, Wf (N, d) → d ≤ day → f (N, d) = none)

/-- Where the loop stands. -/
structure LatK (w : World) (b r n q : Nat) (D : DataW Value) (f : Int × Int → Option Rt) (N day g : Int) (wr : World) : Prop where
  rg : ∃ left cnt, wr.ranges Try.prog 116 rV b r n D left cnt ∧ (∀ x, Wf x → left (kl x) = true → (f x).isSome = true) ∧ ∀ d, Wf (N, d) → (f (N, d)).isSome = true → left (kl (N, d)) = false → d ≤ day → d ≤ g
  box : wr.heap[q]? = some (.cells #[.int .i64 N, .int .i64 g] 116 (0, 0))
  g0 : g = -1 ∨ ((f (N, g)).isSome = true ∧ g ≤ day)
  bel : Below w.heap.size w wr
  res : wr.heap[w.heap.size]? = some (.cells #[.string ⟨#[]⟩, .int .i64 0, .int .i64 0, .int .i64 0] 30 (0, 0))

theorem grown_cell (w : World) (b i : Nat) (v : Value) : w.grownBy (w.setCell ⟨b, i, none⟩ v) (some b) :=
  ⟨rfl, rfl, rfl, by simp [World.setCell], fun k _ hk => heap_setCell_other w _ k v (fun e => hk (by rw [e]))⟩
theorem left_step {f : Int × Int → Option Rt} {left : Lit → Bool} {N day g g' : Int} {x : Int × Int} (hL : ∀ z, Wf z → left (kl z) = true → (f z).isSome = true) (hV : ∀ d, Wf (N, d) → (f (N, d)).isSome = true → left (kl (N, d)) = false → d ≤ day → d ≤ g)
    (hx : Wf x) (hg : g ≤ g') (hg2 : x.1 = N → x.2 ≤ day → x.2 ≤ g') :
    (∀ z, Wf z → (left (kl z) && !(kl z).sameKey (kl x)) = true → (f z).isSome = true) ∧ ∀ d, Wf (N, d) → (f (N, d)).isSome = true → (left (kl (N, d)) && !(kl (N, d)).sameKey (kl x)) = false → d ≤ day → d ≤ g' := by
  refine ⟨fun z hz h => hL z hz (Bool.and_eq_true_iff.1 h).1, fun d hd hs h hle => ?_⟩
  rcases Bool.and_eq_false_iff.1 h with h | h
  · exact Int.le_trans (hV d hd hs h hle) hg
  · have e := kl_inj hd hx (WideAt.sameKey_eq (by simpa using h))
    subst e
    exact hg2 rfl hle
theorem LatK.start {w w1 w2 : World} {b n : Nat} {D : DataW Value} {f : Int × Int → Option Rt} {N day : Int} (hD : Bkd D f)
    (hrg : w2.ranges Try.prog 116 rV b (w1.alloc (.cells #[.int .i64 N, .int .i64 (-1)] 116)).heap.size n D (Maps.has D) (Maps.size D)) (hg : (w1.alloc (.cells #[.int .i64 N, .int .i64 (-1)] 116)).grownBy w2 none) (hb : Below w.heap.size w w1) (hz : w1.heap[w.heap.size]? = some (.cells #[.string ⟨#[]⟩, .int .i64 0, .int .i64 0, .int .i64 0] 30 (0, 0))) :
    LatK w b (w1.alloc (.cells #[.int .i64 N, .int .i64 (-1)] 116)).heap.size n w1.heap.size D f N day (-1) w2 := by
  refine ⟨⟨_, _, hrg, fun x hx h => by rwa [hD.has x hx] at h, fun d hd h1 h2 => ?_⟩, ?_, .inl rfl, ?_, ?_⟩
  · rw [hD.has _ hd, h1] at h2; cases h2
  · exact (hg.block _ (by simp) (by simp)).trans (heap_alloc_new _ _)
  · have h1 := hb.alloc hb.size (.cells #[.int .i64 N, .int .i64 (-1)] 116)
    exact ⟨hg.os.trans h1.os, hg.tape.trans h1.tape, hg.output.trans h1.output, Nat.le_trans h1.size hg.size, fun i hi => (hg.block i (Nat.lt_of_lt_of_le hi h1.size) (by simp)).trans (h1.block i hi)⟩
  · have hl := lt_some hz
    rw [hg.block _ (by simp; omega) (by simp), heap_alloc_old _ _ hl]
    exact hz
/-- A round that turns nothing. -/
theorem LatK.same {w wr w3 : World} {b r n q : Nat} {D : DataW Value} {f : Int × Int → Option Rt} {N day g : Int} {left : Lit → Bool} {cnt' : Nat} {x : Int × Int} (o : Obj)
    (hL : ∀ z, Wf z → left (kl z) = true → (f z).isSome = true) (hV : ∀ d, Wf (N, d) → (f (N, d)).isSome = true → left (kl (N, d)) = false → d ≤ day → d ≤ g) (K : LatK w b r n q D f N day g wr) (hx : Wf x)
    (hno : x.1 = N → x.2 ≤ day → x.2 ≤ g) (h3 : w3.ranges Try.prog 116 rV b r n D (fun z => left z && !z.sameKey (kl x)) cnt') (hg3 : wr.grownBy w3 (some r)) (hqr : q ≠ r) (hr : w.heap.size < r) : LatK w b r n q D f N day g (w3.alloc o) := by
  have hs := left_step (g' := g) hL hV hx (Int.le_refl _) hno
  have hq : q < wr.heap.size := (Array.getElem?_eq_some_iff.1 K.box).1
  have hb3 := below_own K.bel hg3 (Nat.le_of_lt hr)
  have hz := lt_some K.res
  refine ⟨⟨_, _, h3.alloc o, hs.1, hs.2⟩, ?_, K.g0, hb3.alloc hb3.size o, ?_⟩
  · rw [heap_alloc_old _ _ (Nat.lt_of_lt_of_le hq hg3.size), hg3.block _ hq (by simp; omega)]
    exact K.box
  · rw [heap_alloc_old _ _ (Nat.lt_of_lt_of_le hz hg3.size), hg3.block _ hz (by simp; omega)]
    exact K.res
/-- A round that finds a later day. -/
theorem LatK.turn {w wr w3 : World} {b r n q : Nat} {D : DataW Value} {f : Int × Int → Option Rt} {N day g g' : Int} {left : Lit → Bool} {cnt' : Nat} {x : Int × Int} (o : Obj)
    (hL : ∀ z, Wf z → left (kl z) = true → (f z).isSome = true) (hV : ∀ d, Wf (N, d) → (f (N, d)).isSome = true → left (kl (N, d)) = false → d ≤ day → d ≤ g) (K : LatK w b r n q D f N day g wr) (hx : Wf x) (hlx : left (kl x) = true)
    (h1 : x.1 = N) (h2 : x.2 ≤ day) (hg' : g' = max g x.2) (h3 : w3.ranges Try.prog 116 rV b r n D (fun z => left z && !z.sameKey (kl x)) cnt') (hg3 : wr.grownBy w3 (some r)) (hqr : q ≠ r) (hqb : q ≠ b) (hr : w.heap.size < r) (hwq : w.heap.size < q) :
    LatK w b r n q D f N day g' ((w3.alloc o).setCell ⟨q, 1, none⟩ (.int .i64 g')) := by
  have hs := left_step (g' := g') hL hV hx (by omega) (fun _ _ => by omega)
  have hq : q < wr.heap.size := (Array.getElem?_eq_some_iff.1 K.box).1
  have hb3 := below_own K.bel hg3 (Nat.le_of_lt hr)
  have hz := lt_some K.res
  have hbx : (w3.alloc o).heap[q]? = some (.cells #[.int .i64 N, .int .i64 g] 116 (0, 0)) := by
    rw [heap_alloc_old _ _ (Nat.lt_of_lt_of_le hq hg3.size), hg3.block _ hq (by simp; omega)]
    exact K.box
  refine ⟨⟨_, _, (h3.alloc o).kept (grown_cell _ q 1 _) (by simp; omega) (by simp; omega), hs.1, hs.2⟩, heap_setCell_same _ _ _ _ _ _ hbx, ?_, (hb3.alloc hb3.size o).setCell (p := ⟨q, 1, none⟩) (Nat.le_of_lt hwq) _, ?_⟩
  · rcases (by omega : g' = g ∨ g' = x.2) with e | e
    · rw [e]; exact K.g0
    · right
      have := hL x hx hlx
      rw [← h1, e]
      exact ⟨this, h2⟩
  · rw [heap_setCell_other _ _ _ _ (show w.heap.size ≠ q by omega), heap_alloc_old _ _ (Nat.lt_of_lt_of_le hz hg3.size), hg3.block _ hz (by simp; omega)]
    exact K.res
theorem zero44 (w : World) : (zeroValue 30).run Try.prog w = .ok nil0.val w := by
  obtain ⟨i0, hi, hz0, hz1, hz2⟩ := info_parts rateInfo
  simp [zeroValue, typeInfo, hi, hz0, nil0, Rt.val]
/-- 'r, ok := book[key]', at the operation. -/
theorem wpList_look_book {w : World} {ops : Array Oper} {rest : List Oper} {o : Oper} {a : Act} {Q : Exit → Act → World → Prop} (hg : o.guard = none) (m x : Operand) (hop : o.op = Op.lookup 106 m x true) (b n : Nat) (D : DataW Value)
    (hm : a.eval m = .map (some b)) (hown : w.ownsMap Try.prog 116 rV b n D) (y : Int × Int) (hx : a.eval x = kv y) (hy : Wf y) (r : Rt) (ok : Bool) (h1 : D.atKey (kl y) (.held nil0.val) = .held r.val) (h2 : Maps.has D (kl y) = ok)
    (hK : wpList Try.prog ops Q rest (a.put o.dst (.tuple #[.agg #[.string ⟨r.c.toArray⟩, .int .i64 r.day, .int .i64 r.num, .int .i64 r.den], .bool ok])) w) : wpList Try.prog ops Q (o :: rest) a w := by
  refine wpList_lookup_own_ok w hg m x 106 hop 116 30 keyLaw Try.underlying106 rV (zero44 w) (.held nil0.val) [] rfl b n D hm hown (kv y) (kl y) hx (key_of hy) ?_
  intro v ps hv
  rw [h1] at hv
  unfold rV at hv
  simp only [Option.some.injEq, Prod.mk.injEq, DataW.held.injEq] at hv
  rw [hv.1, h2]
  exact hK
/-- What the book has at the key where the loop ended. -/
theorem look_end {D : DataW Value} {f : Int × Int → Option Rt} {N day g : Int} (hD : Bkd D f) (hf : ∀ x r, f x = some r → Wf x ∧ 0 ≤ x.2) (hN : Wf (N, -1)) (hg : g = -1 ∨ ((f (N, g)).isSome = true ∧ g ≤ day)) :
    ∃ r ok, Wf (N, g) ∧ D.atKey (kl (N, g)) (.held nil0.val) = .held r.val ∧ Maps.has D (kl (N, g)) = ok ∧ ((∀ d, Wf (N, d) → (f (N, d)).isSome = true → d ≤ day → d ≤ g) → Latest f N day r ok) := by
  rcases hg with rfl | ⟨h1, h2⟩
  · have h0 : f (N, -1) = none := by
      cases h : f (N, -1) with
      | none => rfl
      | some r => have := (hf _ _ h).2; simp at this
    have h3 : Maps.has D (kl (N, -1)) = false := by rw [hD.has _ hN, h0]; rfl
    refine ⟨nil0, false, hN, Maps.atKey_of_not_has h3 _, h3, fun h => .inr ⟨rfl, rfl, fun d hd hle => ?_⟩⟩
    cases e : f (N, d) with
    | none => rfl
    | some r =>
      have h4 := (hf _ _ e).2
      have h5 := h d hd (by rw [e]; rfl) hle
      simp at h4; omega
  · obtain ⟨r, hr⟩ := Option.isSome_iff_exists.1 h1
    have hw := (hf _ _ hr).1
    exact ⟨r, true, hw, hD.at_ _ _ hw hr _, by rw [hD.has _ hw, hr]; rfl, fun h => .inl ⟨rfl, g, hr, h2, h⟩⟩

theorem ways (x1 x2 N day : Int) : ((x1 == N) = false ∧ x1 ≠ N) ∨ ((x1 == N) = true ∧ x1 = N ∧ decide (x2 ≤ day) = false ∧ ¬ x2 ≤ day) ∨ ((x1 == N) = true ∧ x1 = N ∧ decide (x2 ≤ day) = true ∧ x2 ≤ day) := by
  by_cases e : x1 = N
  · by_cases k : x2 ≤ day
    · exact .inr (.inr ⟨by simpa using e, e, by simpa using k, k⟩)
    · exact .inr (.inl ⟨by simpa using e, e, by simpa using k, k⟩)
  · exact .inl ⟨by simpa using e, e⟩
theorem rateSz : (Try.prog.info? 30).map (·.size) = some 4 := by kernel_rfl
theorem results_cell_tmp_row {P : Program} {fn : Func} {p u : Tmp} {ty : TypeId} (h : fn.results = #[.cell p ty, .tmp u]) (tmps : Array Value) (w : World) (g : Nat) (t : TypeId) (cs : Array Value) (fr : Nat × Nat) (d : TypeDesc)
    (hp : tmps.getD p undef = .pointer (some ⟨g, 0, none⟩)) (hg : w.heap[g]? = some (.cells cs t fr))
    (hu : P.underlying ty = some d) (hd : (match d with | .struct _ | .array _ _ => true | _ => false) = true) (hi : (P.info? ty).map (·.size) = some cs.size) :
    (results fn tmps).run P w = .ok (.tuple #[.agg cs, tmps.getD u undef]) w := by
  rw [results_cell_tmp h, hp]
  simp [asAddr, run_loadVar_row w g t ty cs fr d hg hu hd hi, Result.andThen]
theorem key_same {x : Int × Int} {l : Lit} (h : keyOf Try.prog 116 (.agg #[.int .i64 x.1, .int .i64 x.2]) = some l) : Wf x ∧ l = kl x := by
  obtain ⟨y, e, rfl, hw⟩ := key_inv h
  have e2 : x = y := by unfold kv at e; simp at e; exact Prod.ext e.1 e.2
  subst e2
  exact ⟨hw, rfl⟩
theorem LatK.cells {w wr w3 : World} {b r n q : Nat} {D : DataW Value} {f : Int × Int → Option Rt} {N day g : Int} (K : LatK w b r n q D f N day g wr) (hg3 : wr.grownBy w3 (some r)) (hqr : q ≠ r) (o : Obj) :
    (w3.alloc o).cell? ⟨q, 0, none⟩ = some (.int .i64 N) ∧ (w3.alloc o).cell? ⟨q, 1, none⟩ = some (.int .i64 g) := by
  have hq : q < wr.heap.size := (Array.getElem?_eq_some_iff.1 K.box).1
  have h : (w3.alloc o).heap[q]? = some (.cells #[.int .i64 N, .int .i64 g] 116 (0, 0)) := by
    rw [heap_alloc_old _ _ (Nat.lt_of_lt_of_le hq hg3.size), hg3.block _ hq (by simp; omega)]
    exact K.box
  exact ⟨by rw [cell_of_row _ _ _ _ _ _ h]; rfl, by rw [cell_of_row _ _ _ _ _ _ h]; rfl⟩
theorem LatK.free {w wr w3 : World} {b r n q : Nat} {D : DataW Value} {f : Int × Int → Option Rt} {N day g : Int} (K : LatK w b r n q D f N day g wr) (hg3 : wr.grownBy w3 (some r)) (hqr : q ≠ r) (o : Obj) (j : Nat) : (w3.alloc o).frozen? ⟨q, j, none⟩ = false := by
  have hq : q < wr.heap.size := (Array.getElem?_eq_some_iff.1 K.box).1
  have h : (w3.alloc o).heap[q]? = some (.cells #[.int .i64 N, .int .i64 g] 116 (0, 0)) := by
    rw [heap_alloc_old _ _ (Nat.lt_of_lt_of_le hq hg3.size), hg3.block _ hq (by simp; omega)]
    exact K.box
  exact frozen_of_row _ _ _ _ _ h

set_option maxRecDepth 100000 in
set_option maxHeartbeats 4000000 in
theorem latest_i (s : List UInt8) (day : Int) (w : World) (b n : Nat) (D : DataW Value) (f : Int × Int → Option Rt) (hown : w.ownsMap Try.prog 116 rV b n D) (hD : Bkd D f) (hf : ∀ x r, f x = some r → Wf x ∧ 0 ≤ x.2) (hs : codeB s = true) (hd : 0 ≤ day ∧ day ≤ 36524) :
    Calls Try.prog 80 #[.map (some b), .string ⟨s.toArray⟩, .int .i64 day] w fun e w' => ∃ r ok, e = .returned (.tuple #[r.val, .bool ok]) ∧ Latest f (keyN s) day r ok ∧ Below w.heap.size w w' := by
  have hB0 := below_alloc w (.cells #[.string ⟨#[]⟩, .int .i64 0, .int .i64 0, .int .i64 0] 30)
  have hbl := hown.lt
  go_enter Try.func80, Try.ntmps80
  go_wp2_with (first
    | (go_at_call 86; refine (keyOf_i s (-1) _ hs).mono ?_; rintro e w1 ⟨rfl, b1⟩; have hb1 := belowGo hB0 b1; have hz1 := (b1.block w.heap.size (by simp)).trans (heap_alloc_new w (.cells #[.string ⟨#[]⟩, .int .i64 0, .int .i64 0, .int .i64 0] 30)); have hown1 := (owns_below hown hb1).alloc (.cells #[.int .i64 (keyN s), .int .i64 (-1)] 116))
    | (at_range; refine wpList_range_own _ rfl (.tmp 14) 106 rfl 116 30 keyLaw Try.underlying106 rV b n D rfl hown1 ?_; intro w2 hrg hg2 hs2))
  go_frame
  have HK := LatK.start (day := day) hD hrg hg2 hb1 hz1
  have hqr : w1.heap.size < (w1.alloc (.cells #[.int .i64 (keyN s), .int .i64 (-1)] 116)).heap.size := by simp
  have hwq : w.heap.size < w1.heap.size := lt_some hz1
  have hN : Wf (keyN s, -1) := wf_key hs (by decide) (by decide)
  clear hrg hg2 hs2 hown1 hown hB0 b1 hb1 hz1
  generalize (w1.alloc (.cells #[.int .i64 (keyN s), .int .i64 (-1)] 116)).heap.size = rr at *
  generalize w1.heap.size = q at *
  generalize hNs : keyN s = N at *
  go_loopw [9] (fun _ wr => ∃ g, LatK w b rr n q D f N day g wr) (fun _ wr => wr.rangeLeft b rr)
  case atStart => exact ⟨_, HK⟩
  case round =>
    obtain ⟨g, K⟩ := hrel
    obtain ⟨left, cnt, hrg, hL, hV⟩ := K.rg
    have hbox := K.box
    obtain ⟨r, ok, hwf, hat, hhas, hend⟩ := look_end hD hf hN K.g0
    have hres := (heap_alloc_old wr (.cells #[.string ⟨r.c.toArray⟩, .int .i64 r.day, .int .i64 r.num, .int .i64 r.den] 30) (lt_some K.res)).trans K.res
    clear HK
    have hqr2 : q ≠ rr := by omega
    have C := fun w3 (hg3 : wr.grownBy w3 (some rr)) => K.cells hg3 hqr2
    have F := fun w3 (hg3 : wr.grownBy w3 (some rr)) => K.free hg3 hqr2
    have HK := Lib.hid K
    clear K
    go_wp2_with (first
      | (at_next; refine wpList_next_ranges _ rfl (.tmp 15) rfl 116 keyLaw rV (fun x : Int × Int => Value.agg #[.int .i64 x.1, .int .i64 x.2]) id (fun key kl' hk => ⟨_, (key_inv hk).choose_spec.1⟩) (fun v y _ => ⟨v, rfl⟩) b rr n D left cnt rfl hrg (fun hc0 hl0 => ?_) (fun x c kl' y w3 cnt' hkey hlk hv hat hrg3 hlt3 hg3 hs3 hen => ?_)
         rotate_left
         obtain ⟨x1, x2⟩ := x
         have hx := (key_same (x := (x1, x2)) hkey).1
         obtain rfl := (key_same (x := (x1, x2)) hkey).2
         have c0 := fun o => (C _ hg3 o).1
         have c1 := fun o => (C _ hg3 o).2
         have f1 := fun o => F _ hg3 o 1
         clear hkey hv hD hf C F
         rcases ways x1 x2 N day with ⟨e2, e1⟩ | ⟨e2, e1, e4, e3⟩ | ⟨e2, e1, e4, e3⟩)
      | (refine wpList_load_row rfl 116 (.tmp 8) rfl q rfl 116 #[.int .i64 N, .int .i64 g] (0, 0) _ hbox Try.underlying116 rfl keySz ?_)
      | (refine wpList_store_row rfl 30 (.tmp 6) (.tmp 43) rfl w.heap.size #[.string ⟨r.c.toArray⟩, .int .i64 r.day, .int .i64 r.num, .int .i64 r.den] rfl rfl 30 #[.string ⟨#[]⟩, .int .i64 0, .int .i64 0, .int .i64 0] hres rateSz rfl (by simp [Value.oneCell']) ?_)
      | (at_lookup; refine wpList_look_book rfl (.tmp 38) (.tmp 39) rfl b n D rfl hrg.owns (N, g) rfl hwf r ok hat hhas ?_))
    · refine ⟨⟨_, HK.out.same _ hL hV hx (fun h => absurd h e1) hrg3 hg3 hqr2 (by omega)⟩, ?_⟩
      rw [(hrg3.alloc _).left_eq, hrg.left_eq]; exact hlt3
    · refine ⟨⟨_, HK.out.same _ hL hV hx (fun _ h => absurd h e3) hrg3 hg3 hqr2 (by omega)⟩, ?_⟩
      rw [(hrg3.alloc _).left_eq, hrg.left_eq]; exact hlt3
    · refine ⟨⟨_, HK.out.turn _ hL hV hx hlk e1 e3 rfl hrg3 hg3 hqr2 (by omega) (by omega) hwq⟩, ?_⟩
      rw [((hrg3.alloc _).kept (grown_cell _ q 1 _) (by simp; omega) (by simp; omega)).left_eq, hrg.left_eq]; exact hlt3
    · have hg := heap_setRow_same (cs' := #[.string ⟨r.c.toArray⟩, .int .i64 r.day, .int .i64 r.num, .int .i64 r.den]) hres
      refine bodyPost_ret (v := .tuple #[r.val, .bool ok]) ?_ ?_ ?_
      · exact results_cell_tmp_row (p := 6) (u := 7) rfl _ _ w.heap.size 30 _ (0, 0) _ rfl hg Try.underlying30 rfl rateSz
      · rfl
      · refine ⟨r, ok, rfl, ?_, below_setRow (HK.out.bel.alloc HK.out.bel.size _) (Nat.le_refl _)⟩
        rw [hNs]
        exact hend fun d h1 h2 h3 => hV d h1 h2 (hl0 _) h3
end Go.Proofs.Ytaehkkcaoniphaa
