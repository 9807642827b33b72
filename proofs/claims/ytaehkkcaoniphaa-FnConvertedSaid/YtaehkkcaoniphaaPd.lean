import Derived.Test.YtaehkkcaoniphaaPc
import Derived.Laws.Small
import Derived.Maps.OwnOps
import Derived.Laws.ResultCell
import Derived.Sort.OwnSorted
/- impl.bookOf. -/
namespace Go.Proofs.Ytaehkkcaoniphaa
open Go.ChangeShapes Go.WideShapes Go.ChangeAt Go.RowKit
set_option linter.unusedVariables false

theorem keyI_y {S : World → Prop} {s : List UInt8} {d : Int} (hs : codeB s = true) (hS : ∀ (y : Sub S) (w' : World), Below y.w.heap.size y.w w' → S w') (y : Sub S) :
    Calls Try.prog 86 #[.string ⟨s.toArray⟩, .int .i64 d] y.w fun e w' => e = .returned (.agg #[.int .i64 (keyN s), .int .i64 d]) ∧ ∃ z : Sub S, w' = z.w :=
  (keyOf_i s d y.w hs).mono fun e w' k => ⟨k.1, ⟨w', hS y w' k.2⟩, rfl⟩
theorem below_own {w0 w w' : World} {b : Nat} (h : Below w0.heap.size w0 w) (hg : w.grownBy w' (some b)) (hb : w0.heap.size ≤ b) : Below w0.heap.size w0 w' :=
  ⟨hg.os.trans h.os, hg.tape.trans h.tape, hg.output.trans h.output, Nat.le_trans h.size hg.size, fun i hi => (hg.block i (Nat.lt_of_lt_of_le hi h.size) (by simp; omega)).trans (h.block i hi)⟩
theorem owns_below {w w' : World} {k : TypeId} {b n : Nat} {D : DataW Value} (h : w.ownsMap Try.prog k rV b n D) (hb : Below w.heap.size w w') : w'.ownsMap Try.prog k rV b n D := h.kept (grown_of hb) (by simp)

set_option maxRecDepth 100000 in
set_option maxHeartbeats 4000000 in
theorem bookOf_i (A : Option Addr) (c : Nat) (rs : List Rt) (w : World) (h : Tbl w A rs) (ht : tabB rs = true) :
    Calls Try.prog 79 #[.slice A rs.length c] w fun e w' => ∃ D, e = .returned (.map (some w.heap.size)) ∧ w'.ownsMap Try.prog 116 rV w.heap.size (rs.length + 1) D ∧ Bkd D (bookF rs) ∧ Below w.heap.size w w' := by
  have h0 : w.heap.size < (w.alloc (.map #[] 0)).heap.size := by simp
  have hm := World.ownsMap_made (H := Value) w Try.prog 116 rV
  have hB0 := below_alloc w (.map #[] 0)
  have hn := h.len
  have hmk : (Instr.makeMap 106 none).run Try.prog w = .ok (.map (some w.heap.size)) (w.alloc (.map #[] 0)) := rfl
  go_enter Try.func79, Try.ntmps79
  go_wp2_with (first
    | (go_at_call 86; refine (keyOf_i xdr 0 _ xdr_code).mono ?_; rintro e w1 ⟨rfl, b1⟩; have hown1 := owns_below hm b1; have hb1 := belowGo hB0 b1)
    | (refine wpList_insert_own _ rfl (.tmp 6) (.tmp 7) (.tmp 8) 106 rfl 116 30 keyLaw Try.underlying106 rV w.heap.size 0 (.map []) rfl hown1 (by decide) (kv (keyN xdr, 0)) one.val (kl (keyN xdr, 0)) rfl rfl (key_of (wf_key xdr_code (by decide) (by decide))) (.held one.val) [] rfl ?_; intro w2 hown2 hg2))
  have bd1 : Bkd ((DataW.map [] : DataW Value).put (kl (keyN xdr, 0)) (.held one.val)) (bookF (rs.take 0)) := bd_0.put (wf_key xdr_code (by decide) (by decide)) one
  have hB2 : Below w.heap.size w w2 := below_own hb1 hg2 (Nat.le_refl _)
  clear hmk hm hB0 h0 hown1 hb1 b1
  go_loopw [5, 12] (fun _ i wr => ∃ (k : Nat) (D : DataW Value), k ≤ rs.length ∧ i = .int .i64 k ∧ wr.ownsMap Try.prog 116 rV w.heap.size (k + 1) D ∧ Hid (Bkd D (bookF (rs.take k))) ∧ Below w.heap.size w wr) (fun _ i _ => rs.length - (intOf i).toNat)
  case atStart => exact ⟨0, _, Nat.zero_le _, rfl, hown2, Lib.hid bd1, hB2⟩
  case round =>
    obtain ⟨k, D, hk, rfl, hown, hbd, hb⟩ := hrel
    by_cases hlt : k < rs.length
    · obtain ⟨b, off, r, rfl, hl, hr, h4⟩ := (h.row.below hb).four hlt
      have hok := Rt.ok_iff.1 (tab_ok ht hr.out)
      have hwf : Wf (keyN r.c, r.day) := wf_key hok.1 (by omega) (by omega)
      have hcd := hok.1
      obtain ⟨S, hS⟩ : ∃ S : World → Prop, ∀ W, S W ↔ KeepB wr #[.string ⟨r.c.toArray⟩, .int .i64 r.day, .int .i64 r.num, .int .i64 r.den] 30 W := ⟨_, fun _ => Iff.rfl⟩
      have k0 : S (wr.alloc (.cells #[.string ⟨r.c.toArray⟩, .int .i64 r.day, .int .i64 r.num, .int .i64 r.den] 30)).drew := (hS _).2 (KeepB.new wr _ _).drew
      have q0 : ∀ y : Sub S, y.w.cell? ⟨wr.heap.size, 0, none⟩ = some (.string ⟨r.c.toArray⟩) := fun y => ((hS _).1 y.h).all.1
      have q1 : ∀ y : Sub S, y.w.cell? ⟨wr.heap.size, 1, none⟩ = some (.int .i64 r.day) := fun y => ((hS _).1 y.h).all.2.1
      have q2 : ∀ y : Sub S, y.w.cell? ⟨wr.heap.size, 2, none⟩ = some (.int .i64 r.num) := fun y => ((hS _).1 y.h).all.2.2.1
      have q3 : ∀ y : Sub S, y.w.cell? ⟨wr.heap.size, 3, none⟩ = some (.int .i64 r.den) := fun y => ((hS _).1 y.h).all.2.2.2.1
      have HB := Lib.hid (fun y : Sub S => (belowGo hb ((hS _).1 y.h).bel : Below w.heap.size w y.w))
      have HO := Lib.hid (fun y : Sub S => owns_below hown ((hS _).1 y.h).bel)
      have HS := Lib.hid (fun (y : Sub S) (w' : World) (hb' : Below y.w.heap.size y.w w') => (hS w').2 (((hS _).1 y.h).step hb'))
      have c0 := h4.c0; have c1 := h4.c1; have c2 := h4.c2; have c3 := h4.c3
      have hbd2 : Hid (Bkd (D.put (kl (keyN r.c, r.day)) (.held r.val)) (bookF (rs.take (k + 1)))) := Lib.hid (by rw [snoc_of hr.out, bookF_snoc]; exact hbd.out.put hwf r)
      have hmx : k + 1 < maxLen := by unfold maxLen; omega
      clear h4 hS hr hok hbd hown
      go_wp2_with fail
      refine region_tail 7 S (by kernel_rfl) (by kernel_rfl) k0 ?_
      simp only [List.take_succ_cons, List.take_zero, List.drop_succ_cons, List.drop_zero]
      repeat (go_big_quiet_step ((first | rfl | (go_at_call 86; exact keyI_y hcd HS.out _))))
      refine wpQuiet_nil ?_
      intro y
      have hown3 := HO.out y
      have hby := HB.out y
      refine wpList_mapUpdate_own _ rfl (.tmp 16) (.tmp 21) (.tmp 22) 106 rfl 116 30 keyLaw Try.underlying106 rV w.heap.size (k + 1) D rfl hown3 hmx (kv (keyN r.c, r.day)) r.val (kl (keyN r.c, r.day)) rfl rfl (key_of hwf) (.held r.val) [] rfl ?_
      intro w3 hown4 hg3
      have hb3 := below_own hby hg3 (Nat.le_refl _)
      go_wp2_with fail
      go_roundw
      case rel => exact ⟨k + 1, _, by omega, by go_num, hown4, hbd2, hb3⟩
      case measure => simp [intOf]; omega
    · have E : Hid (Bkd D (bookF rs)) := Lib.hid (by have := hbd.out; rwa [take_all hk hlt] at this)
      obtain rfl : k = rs.length := by omega
      clear hbd h
      go_wp2_with fail
      go_ret
      exact ⟨D, rfl, hown, E.out, hb⟩
end Go.Proofs.Ytaehkkcaoniphaa

/- (impl.rateBook).latest. -/
namespace Go.Proofs.Ytaehkkcaoniphaa
open Go.ChangeShapes Go.WideShapes Go.ChangeAt Go.RowKit
set_option linter.unusedVariables false

def nil0 : Rt := ⟨[], 0, 0, 0⟩
/-- What 'latest' returns: the rate of the greatest day that has come, and whether there is one. -/
def Latest (f : Int × Int → Option Rt) (N day : Int) (r : Rt) (ok : Bool) : Prop :=
  (ok = true ∧ ∃ g, f (N, g) = some r ∧ g ≤ day ∧ ∀ d, Wf (N, d) → (f (N, d)).isSome = true → d ≤ day → d ≤ g) ∨ (ok = false ∧ r = nil0 ∧ ∀ d, Wf (N, d) → d ≤ day → f (N, d) = none)

/-- Where the loop stands. -/
structure LatK (w : World) (b r n q : Nat) (D : DataW Value) (f : Int × Int → Option Rt) (N day g : Int) (wr : World) : Prop where
  rg : ∃ left cnt, wr.ranges Try.prog 116 rV b r n D left cnt ∧ (∀ x, Wf x → left (kl x) = true → (f x).isSome = true) ∧ ∀ d, Wf (N, d) → (f (N, d)).isSome = true → left (kl (N, d)) = false → d ≤ day → d ≤ g
  box : wr.heap[q]? = some (.cells #[.int .i64 N, .int .i64 g] 116 (0, 0))
  g0 : g = -1 ∨ ((f (N, g)).isSome = true ∧ g ≤ day)
  bel : Below w.heap.size w wr
  res : wr.heap[w.heap.size]? = some (.cells #[.string ⟨#[]⟩, .int .i64 0, .int .i64 0, .int .i64 0] 30 (0, 0))

theorem grown_cell (w : World) (b i : Nat) (v : Value) : w.grownBy (w.setCell ⟨b, i, none⟩ v) (some b) :=
  ⟨rfl, rfl, rfl, by simp [World.setCell], fun k _ hk => heap_setCell_other w _ k v (fun e => hk (by rw [e]))⟩
theorem left_step {f : Int × Int → Option Rt} {left : Lit → Bool} {N day g g' : Int} {x : Int × Int} (hL : ∀ z, Wf z → left (kl z) = true → (f z).isSome = true) (hV : ∀ d, Wf (N, d) → (f (N, d)).isSome = true → left (kl (N, d)) = false → d ≤ day → d ≤ g)
    (hx : Wf x) (hg : g ≤ g') (hg2 : x.1 = N → x.2 ≤ day → x.2 ≤ g') :
    (∀ z, Wf z → (left (kl z) && !(kl z).sameKey (kl x)) = true → (f z).isSome = true) ∧ ∀ d, Wf (N, d) → (f (N, d)).isSome = true → (left (kl (N, d)) && !(kl (N, d)).sameKey (kl x)) = false → d ≤ day → d ≤ g' := by
  refine ⟨fun z hz h => hL z hz (Bool.and_eq_true_iff.1 h).1, fun d hd hs h hle => ?_⟩
  rcases Bool.and_eq_false_iff.1 h with h | h
  · exact Int.le_trans (hV d hd hs h hle) hg
  · have e := kl_inj hd hx (WideAt.sameKey_eq (by simpa using h))
    subst e
    exact hg2 rfl hle
theorem LatK.start {w w1 w2 : World} {b n : Nat} {D : DataW Value} {f : Int × Int → Option Rt} {N day : Int} (hD : Bkd D f)
    (hrg : w2.ranges Try.prog 116 rV b (w1.alloc (.cells #[.int .i64 N, .int .i64 (-1)] 116)).heap.size n D (Maps.has D) (Maps.size D)) (hg : (w1.alloc (.cells #[.int .i64 N, .int .i64 (-1)] 116)).grownBy w2 none) (hb : Below w.heap.size w w1) (hz : w1.heap[w.heap.size]? = some (.cells #[.string ⟨#[]⟩, .int .i64 0, .int .i64 0, .int .i64 0] 30 (0, 0))) :
    LatK w b (w1.alloc (.cells #[.int .i64 N, .int .i64 (-1)] 116)).heap.size n w1.heap.size D f N day (-1) w2 := by
  refine ⟨⟨_, _, hrg, fun x hx h => by rwa [hD.has x hx] at h, fun d hd h1 h2 => ?_⟩, ?_, .inl rfl, ?_, ?_⟩
  · rw [hD.has _ hd, h1] at h2; cases h2
  · exact (hg.block _ (by simp) (by simp)).trans (heap_alloc_new _ _)
  · have h1 := hb.alloc hb.size (.cells #[.int .i64 N, .int .i64 (-1)] 116)
    exact ⟨hg.os.trans h1.os, hg.tape.trans h1.tape, hg.output.trans h1.output, Nat.le_trans h1.size hg.size, fun i hi => (hg.block i (Nat.lt_of_lt_of_le hi h1.size) (by simp)).trans (h1.block i hi)⟩
  · have hl := lt_some hz
    rw [hg.block _ (by simp; omega) (by simp), heap_alloc_old _ _ hl]
    exact hz
/-- A round that turns nothing. -/
theorem LatK.same {w wr w3 : World} {b r n q : Nat} {D : DataW Value} {f : Int × Int → Option Rt} {N day g : Int} {left : Lit → Bool} {cnt' : Nat} {x : Int × Int} (o : Obj)
    (hL : ∀ z, Wf z → left (kl z) = true → (f z).isSome = true) (hV : ∀ d, Wf (N, d) → (f (N, d)).isSome = true → left (kl (N, d)) = false → d ≤ day → d ≤ g) (K : LatK w b r n q D f N day g wr) (hx : Wf x)
    (hno : x.1 = N → x.2 ≤ day → x.2 ≤ g) (h3 : w3.ranges Try.prog 116 rV b r n D (fun z => left z && !z.sameKey (kl x)) cnt') (hg3 : wr.grownBy w3 (some r)) (hqr : q ≠ r) (hr : w.heap.size < r) : LatK w b r n q D f N day g (w3.alloc o) := by
  have hs := left_step (g' := g) hL hV hx (Int.le_refl _) hno
  have hq : q < wr.heap.size := (Array.getElem?_eq_some_iff.1 K.box).1
  have hb3 := below_own K.bel hg3 (Nat.le_of_lt hr)
  have hz := lt_some K.res
  refine ⟨⟨_, _, h3.alloc o, hs.1, hs.2⟩, ?_, K.g0, hb3.alloc hb3.size o, ?_⟩
  · rw [heap_alloc_old _ _ (Nat.lt_of_lt_of_le hq hg3.size), hg3.block _ hq (by simp; omega)]
    exact K.box
  · rw [heap_alloc_old _ _ (Nat.lt_of_lt_of_le hz hg3.size), hg3.block _ hz (by simp; omega)]
    exact K.res
/-- A round that finds a later day. -/
theorem LatK.turn {w wr w3 : World} {b r n q : Nat} {D : DataW Value} {f : Int × Int → Option Rt} {N day g g' : Int} {left : Lit → Bool} {cnt' : Nat} {x : Int × Int} (o : Obj)
    (hL : ∀ z, Wf z → left (kl z) = true → (f z).isSome = true) (hV : ∀ d, Wf (N, d) → (f (N, d)).isSome = true → left (kl (N, d)) = false → d ≤ day → d ≤ g) (K : LatK w b r n q D f N day g wr) (hx : Wf x) (hlx : left (kl x) = true)
    (h1 : x.1 = N) (h2 : x.2 ≤ day) (hg' : g' = max g x.2) (h3 : w3.ranges Try.prog 116 rV b r n D (fun z => left z && !z.sameKey (kl x)) cnt') (hg3 : wr.grownBy w3 (some r)) (hqr : q ≠ r) (hqb : q ≠ b) (hr : w.heap.size < r) (hwq : w.heap.size < q) :
    LatK w b r n q D f N day g' ((w3.alloc o).setCell ⟨q, 1, none⟩ (.int .i64 g')) := by
  have hs := left_step (g' := g') hL hV hx (by omega) (fun _ _ => by omega)
  have hq : q < wr.heap.size := (Array.getElem?_eq_some_iff.1 K.box).1
  have hb3 := below_own K.bel hg3 (Nat.le_of_lt hr)
  have hz := lt_some K.res
  have hbx : (w3.alloc o).heap[q]? = some (.cells #[.int .i64 N, .int .i64 g] 116 (0, 0)) := by
    rw [heap_alloc_old _ _ (Nat.lt_of_lt_of_le hq hg3.size), hg3.block _ hq (by simp; omega)]
    exact K.box
  refine ⟨⟨_, _, (h3.alloc o).kept (grown_cell _ q 1 _) (by simp; omega) (by simp; omega), hs.1, hs.2⟩, heap_setCell_same _ _ _ _ _ _ hbx, ?_, (hb3.alloc hb3.size o).setCell (p := ⟨q, 1, none⟩) (Nat.le_of_lt hwq) _, ?_⟩
  · rcases (by omega : g' = g ∨ g' = x.2) with e | e
    · rw [e]; exact K.g0
    · right
      have := hL x hx hlx
      rw [← h1, e]
      exact ⟨this, h2⟩
  · rw [heap_setCell_other _ _ _ _ (show w.heap.size ≠ q by omega), heap_alloc_old _ _ (Nat.lt_of_lt_of_le hz hg3.size), hg3.block _ hz (by simp; omega)]
    exact K.res
theorem zero44 (w : World) : (zeroValue 30).run Try.prog w = .ok nil0.val w := by
  obtain ⟨i0, hi, hz0, hz1, hz2⟩ := info_parts rateInfo
  simp [zeroValue, typeInfo, hi, hz0, nil0, Rt.val]
/-- 'r, ok := book[key]', at the operation. -/
theorem wpList_look_book {w : World} {ops : Array Oper} {rest : List Oper} {o : Oper} {a : Act} {Q : Exit → Act → World → Prop} (hg : o.guard = none) (m x : Operand) (hop : o.op = Op.lookup 106 m x true) (b n : Nat) (D : DataW Value)
    (hm : a.eval m = .map (some b)) (hown : w.ownsMap Try.prog 116 rV b n D) (y : Int × Int) (hx : a.eval x = kv y) (hy : Wf y) (r : Rt) (ok : Bool) (h1 : D.atKey (kl y) (.held nil0.val) = .held r.val) (h2 : Maps.has D (kl y) = ok)
    (hK : wpList Try.prog ops Q rest (a.put o.dst (.tuple #[.agg #[.string ⟨r.c.toArray⟩, .int .i64 r.day, .int .i64 r.num, .int .i64 r.den], .bool ok])) w) : wpList Try.prog ops Q (o :: rest) a w := by
  refine wpList_lookup_own_ok w hg m x 106 hop 116 30 keyLaw Try.underlying106 rV (zero44 w) (.held nil0.val) [] rfl b n D hm hown (kv y) (kl y) hx (key_of hy) ?_
  intro v ps hv
  rw [h1] at hv
  unfold rV at hv
  simp only [Option.some.injEq, Prod.mk.injEq, DataW.held.injEq] at hv
  rw [hv.1, h2]
  exact hK
/-- What the book has at the key where the loop ended. -/
theorem look_end {D : DataW Value} {f : Int × Int → Option Rt} {N day g : Int} (hD : Bkd D f) (hf : ∀ x r, f x = some r → Wf x ∧ 0 ≤ x.2) (hN : Wf (N, -1)) (hg : g = -1 ∨ ((f (N, g)).isSome = true ∧ g ≤ day)) :
    ∃ r ok, Wf (N, g) ∧ D.atKey (kl (N, g)) (.held nil0.val) = .held r.val ∧ Maps.has D (kl (N, g)) = ok ∧ ((∀ d, Wf (N, d) → (f (N, d)).isSome = true → d ≤ day → d ≤ g) → Latest f N day r ok) := by
  rcases hg with rfl | ⟨h1, h2⟩
  · have h0 : f (N, -1) = none := by
      cases h : f (N, -1) with
      | none => rfl
      | some r => have := (hf _ _ h).2; simp at this
    have h3 : Maps.has D (kl (N, -1)) = false := by rw [hD.has _ hN, h0]; rfl
    refine ⟨nil0, false, hN, Maps.atKey_of_not_has h3 _, h3, fun h => .inr ⟨rfl, rfl, fun d hd hle => ?_⟩⟩
    cases e : f (N, d) with
    | none => rfl
    | some r =>
      have h4 := (hf _ _ e).2
      have h5 := h d hd (by rw [e]; rfl) hle
      simp at h4; omega
  · obtain ⟨r, hr⟩ := Option.isSome_iff_exists.1 h1
    have hw := (hf _ _ hr).1
    exact ⟨r, true, hw, hD.at_ _ _ hw hr _, by rw [hD.has _ hw, hr]; rfl, fun h => .inl ⟨rfl, g, hr, h2, h⟩⟩

theorem ways (x1 x2 N day : Int) : ((x1 == N) = false ∧ x1 ≠ N) ∨ ((x1 == N) = true ∧ x1 = N ∧ decide (x2 ≤ day) = false ∧ ¬ x2 ≤ day) ∨ ((x1 == N) = true ∧ x1 = N ∧ decide (x2 ≤ day) = true ∧ x2 ≤ day) := by
  by_cases e : x1 = N
  · by_cases k : x2 ≤ day
    · exact .inr (.inr ⟨by simpa using e, e, by simpa using k, k⟩)
    · exact .inr (.inl ⟨by simpa using e, e, by simpa using k, k⟩)
  · exact .inl ⟨by simpa using e, e⟩
theorem rateSz : (Try.prog.info? 30).map (·.size) = some 4 := by kernel_rfl
theorem results_cell_tmp_row {P : Program} {fn : Func} {p u : Tmp} {ty : TypeId} (h : fn.results = #[.cell p ty, .tmp u]) (tmps : Array Value) (w : World) (g : Nat) (t : TypeId) (cs : Array Value) (fr : Nat × Nat) (d : TypeDesc)
    (hp : tmps.getD p undef = .pointer (some ⟨g, 0, none⟩)) (hg : w.heap[g]? = some (.cells cs t fr))
    (hu : P.underlying ty = some d) (hd : (match d with | .struct _ | .array _ _ => true | _ => false) = true) (hi : (P.info? ty).map (·.size) = some cs.size) :
    (results fn tmps).run P w = .ok (.tuple #[.agg cs, tmps.getD u undef]) w := by
  rw [results_cell_tmp h, hp]
  simp [asAddr, run_loadVar_row w g t ty cs fr d hg hu hd hi, Result.andThen]
theorem key_same {x : Int × Int} {l : Lit} (h : keyOf Try.prog 116 (.agg #[.int .i64 x.1, .int .i64 x.2]) = some l) : Wf x ∧ l = kl x := by
  obtain ⟨y, e, rfl, hw⟩ := key_inv h
  have e2 : x = y := by unfold kv at e; simp at e; exact Prod.ext e.1 e.2
  subst e2
  exact ⟨hw, rfl⟩
theorem LatK.cells {w wr w3 : World} {b r n q : Nat} {D : DataW Value} {f : Int × Int → Option Rt} {N day g : Int} (K : LatK w b r n q D f N day g wr) (hg3 : wr.grownBy w3 (some r)) (hqr : q ≠ r) (o : Obj) :
    (w3.alloc o).cell? ⟨q, 0, none⟩ = some (.int .i64 N) ∧ (w3.alloc o).cell? ⟨q, 1, none⟩ = some (.int .i64 g) := by
  have hq : q < wr.heap.size := (Array.getElem?_eq_some_iff.1 K.box).1
  have h : (w3.alloc o).heap[q]? = some (.cells #[.int .i64 N, .int .i64 g] 116 (0, 0)) := by
    rw [heap_alloc_old _ _ (Nat.lt_of_lt_of_le hq hg3.size), hg3.block _ hq (by simp; omega)]
    exact K.box
  exact ⟨by rw [cell_of_row _ _ _ _ _ _ h]; rfl, by rw [cell_of_row _ _ _ _ _ _ h]; rfl⟩
theorem LatK.free {w wr w3 : World} {b r n q : Nat} {D : DataW Value} {f : Int × Int → Option Rt} {N day g : Int} (K : LatK w b r n q D f N day g wr) (hg3 : wr.grownBy w3 (some r)) (hqr : q ≠ r) (o : Obj) (j : Nat) : (w3.alloc o).frozen? ⟨q, j, none⟩ = false := by
  have hq : q < wr.heap.size := (Array.getElem?_eq_some_iff.1 K.box).1
  have h : (w3.alloc o).heap[q]? = some (.cells #[.int .i64 N, .int .i64 g] 116 (0, 0)) := by
    rw [heap_alloc_old _ _ (Nat.lt_of_lt_of_le hq hg3.size), hg3.block _ hq (by simp; omega)]
    exact K.box
  exact frozen_of_row _ _ _ _ _ h

set_option maxRecDepth 100000 in
set_option maxHeartbeats 4000000 in
theorem latest_i (s : List UInt8) (day : Int) (w : World) (b n : Nat) (D : DataW Value) (f : Int × Int → Option Rt) (hown : w.ownsMap Try.prog 116 rV b n D) (hD : Bkd D f) (hf : ∀ x r, f x = some r → Wf x ∧ 0 ≤ x.2) (hs : codeB s = true) (hd : 0 ≤ day ∧ day ≤ 36524) :
    Calls Try.prog 80 #[.map (some b), .string ⟨s.toArray⟩, .int .i64 day] w fun e w' => ∃ r ok, e = .returned (.tuple #[r.val, .bool ok]) ∧ Latest f (keyN s) day r ok ∧ Below w.heap.size w w' := by
  have hB0 := below_alloc w (.cells #[.string ⟨#[]⟩, .int .i64 0, .int .i64 0, .int .i64 0] 30)
  have hbl := hown.lt
  go_enter Try.func80, Try.ntmps80
  go_wp2_with (first
    | (go_at_call 86; refine (keyOf_i s (-1) _ hs).mono ?_; rintro e w1 ⟨rfl, b1⟩; have hb1 := belowGo hB0 b1; have hz1 := (b1.block w.heap.size (by simp)).trans (heap_alloc_new w (.cells #[.string ⟨#[]⟩, .int .i64 0, .int .i64 0, .int .i64 0] 30)); have hown1 := (owns_below hown hb1).alloc (.cells #[.int .i64 (keyN s), .int .i64 (-1)] 116))
    | (at_range; refine wpList_range_own _ rfl (.tmp 14) 106 rfl 116 30 keyLaw Try.underlying106 rV b n D rfl hown1 ?_; intro w2 hrg hg2 hs2))
  go_frame
  have HK := LatK.start (day := day) hD hrg hg2 hb1 hz1
  have hqr : w1.heap.size < (w1.alloc (.cells #[.int .i64 (keyN s), .int .i64 (-1)] 116)).heap.size := by simp
  have hwq : w.heap.size < w1.heap.size := lt_some hz1
  have hN : Wf (keyN s, -1) := wf_key hs (by decide) (by decide)
  clear hrg hg2 hs2 hown1 hown hB0 b1 hb1 hz1
  generalize (w1.alloc (.cells #[.int .i64 (keyN s), .int .i64 (-1)] 116)).heap.size = rr at *
  generalize w1.heap.size = q at *
  generalize hNs : keyN s = N at *
  go_loopw [9] (fun _ wr => ∃ g, LatK w b rr n q D f N day g wr) (fun _ wr => wr.rangeLeft b rr)
  case atStart => exact ⟨_, HK⟩
  case round =>
    obtain ⟨g, K⟩ := hrel
    obtain ⟨left, cnt, hrg, hL, hV⟩ := K.rg
    have hbox := K.box
    obtain ⟨r, ok, hwf, hat, hhas, hend⟩ := look_end hD hf hN K.g0
    have hres := (heap_alloc_old wr (.cells #[.string ⟨r.c.toArray⟩, .int .i64 r.day, .int .i64 r.num, .int .i64 r.den] 30) (lt_some K.res)).trans K.res
    clear HK
    have hqr2 : q ≠ rr := by omega
    have C := fun w3 (hg3 : wr.grownBy w3 (some rr)) => K.cells hg3 hqr2
    have F := fun w3 (hg3 : wr.grownBy w3 (some rr)) => K.free hg3 hqr2
    have HK := Lib.hid K
    clear K
    go_wp2_with (first
      | (at_next; refine wpList_next_ranges _ rfl (.tmp 15) rfl 116 keyLaw rV (fun x : Int × Int => Value.agg #[.int .i64 x.1, .int .i64 x.2]) id (fun key kl' hk => ⟨_, (key_inv hk).choose_spec.1⟩) (fun v y _ => ⟨v, rfl⟩) b rr n D left cnt rfl hrg (fun hc0 hl0 => ?_) (fun x c kl' y w3 cnt' hkey hlk hv hat hrg3 hlt3 hg3 hs3 hen => ?_)
         rotate_left
         obtain ⟨x1, x2⟩ := x
         have hx := (key_same (x := (x1, x2)) hkey).1
         obtain rfl := (key_same (x := (x1, x2)) hkey).2
         have c0 := fun o => (C _ hg3 o).1
         have c1 := fun o => (C _ hg3 o).2
         have f1 := fun o => F _ hg3 o 1
         clear hkey hv hD hf C F
         rcases ways x1 x2 N day with ⟨e2, e1⟩ | ⟨e2, e1, e4, e3⟩ | ⟨e2, e1, e4, e3⟩)
      | (refine wpList_load_row rfl 116 (.tmp 8) rfl q rfl 116 #[.int .i64 N, .int .i64 g] (0, 0) _ hbox Try.underlying116 rfl keySz ?_)
      | (refine wpList_store_row rfl 30 (.tmp 6) (.tmp 43) rfl w.heap.size #[.string ⟨r.c.toArray⟩, .int .i64 r.day, .int .i64 r.num, .int .i64 r.den] rfl rfl 30 #[.string ⟨#[]⟩, .int .i64 0, .int .i64 0, .int .i64 0] hres rateSz rfl (by simp [Value.oneCell']) ?_)
      | (at_lookup; refine wpList_look_book rfl (.tmp 38) (.tmp 39) rfl b n D rfl hrg.owns (N, g) rfl hwf r ok hat hhas ?_))
    · refine ⟨⟨_, HK.out.same _ hL hV hx (fun h => absurd h e1) hrg3 hg3 hqr2 (by omega)⟩, ?_⟩
      rw [(hrg3.alloc _).left_eq, hrg.left_eq]; exact hlt3
    · refine ⟨⟨_, HK.out.same _ hL hV hx (fun _ h => absurd h e3) hrg3 hg3 hqr2 (by omega)⟩, ?_⟩
      rw [(hrg3.alloc _).left_eq, hrg.left_eq]; exact hlt3
    · refine ⟨⟨_, HK.out.turn _ hL hV hx hlk e1 e3 rfl hrg3 hg3 hqr2 (by omega) (by omega) hwq⟩, ?_⟩
      rw [((hrg3.alloc _).kept (grown_cell _ q 1 _) (by simp; omega) (by simp; omega)).left_eq, hrg.left_eq]; exact hlt3
    · have hg := heap_setRow_same (cs' := #[.string ⟨r.c.toArray⟩, .int .i64 r.day, .int .i64 r.num, .int .i64 r.den]) hres
      refine bodyPost_ret (v := .tuple #[r.val, .bool ok]) ?_ ?_ ?_
      · exact results_cell_tmp_row (p := 6) (u := 7) rfl _ _ w.heap.size 30 _ (0, 0) _ rfl hg Try.underlying30 rfl rateSz
      · rfl
      · refine ⟨r, ok, rfl, ?_, below_setRow (HK.out.bel.alloc HK.out.bel.size _) (Nat.le_refl _)⟩
        rw [hNs]
        exact hend fun d h1 h2 h3 => hV d h1 h2 (hl0 _) h3
end Go.Proofs.Ytaehkkcaoniphaa

/- Rows of strings: laws.eqStringS, markStringS, heldStringS. -/
namespace Go.Proofs.Ytaehkkcaoniphaa
open Go.ChangeShapes Go.WideShapes Go.ChangeAt Go.RowKit
set_option linter.unusedVariables false

theorem strInfo : (Try.prog.info? 9).map (fun i => (i.zero, i.size, i.bytes)) = some (some (.string ⟨#[]⟩), 1, 16) := by kernel_rfl
def Sr (w : World) (A : Option Addr) (ws : List (List UInt8)) : Prop := Rw w A (ws.map encStr)
def Ost (w : World) (base : Nat) (A : Option Addr) (n c : Nat) (ws : List (List UInt8)) : Prop := w.ownsRow base 9 1 (.slice A n c) n (ws.map encStr)
theorem Sr.at {w : World} {A : Option Addr} {ws : List (List UInt8)} (h : Sr w A ws) {k : Nat} (hk : k < ws.length) :
    ∃ b off s, A = some ⟨b, off, none⟩ ∧ b < w.heap.size ∧ w.cell? ⟨b, off + k, none⟩ = some (.string ⟨s.toArray⟩) ∧ Hid (ws[k]? = some s) := by
  obtain ⟨b, off, e, hl, hc⟩ := h (by simp; omega)
  exact ⟨b, off, ws[k], e, hl, hc k _ (by simp [hk, encStr]), Lib.hid (by simp [hk])⟩
section
variable {w w' : World} {base : Nat} {A : Option Addr} {n c : Nat} {ws : List (List UInt8)}
theorem Sr.below (h : Sr w A ws) (hb : Below w.heap.size w w') : Sr w' A ws := Rw.below h hb
theorem Sr.keepB {B : Nat} (h : Sr w A ws) (hA : Bd A B) (hb : Below B w w') : Sr w' A ws := Rw.keepB h hA hb
theorem Ost.len (h : Ost w base A n c ws) : ws.length = n := by have := h.1; simpa using this
theorem Ost.sr (h : Ost w base A n c ws) : Sr w A ws := Rw.ownS h
theorem Ost.bd (h : Ost w base A n c ws) : Bd A w.heap.size := fun a e => (h.lt a.block (by rw [e]; rfl)).2
theorem Ost.lo (h : Ost w base A n c ws) : ∀ k, (Value.slice A n c).ownBlock = some k → base ≤ k := fun k e => (h.lt k e).1
theorem Ost.below (h : Ost w base A n c ws) (hb : Below w.heap.size w w') : Ost w' base A n c ws := own_below h hb
theorem Ost.kept {B : Option Addr} {m d : Nat} (h : Ost w base A n c ws) (hg : w.grownBy w' (Value.slice B m d).ownBlock) (hB : Bd B base) : Ost w' base A n c ws :=
  World.ownsRow.kept h hg (by
    cases A with
    | none => exact .inl rfl
    | some a =>
      right
      cases B with
      | none => simp [Value.ownBlock]
      | some b =>
        intro e
        have h1 := h.lo a.block rfl
        have h2 := hB b rfl
        simp [Value.ownBlock] at e
        omega)
theorem Ost.far {B : Nat} (h : Ost w base A n c ws) (hg : w.grownBy w' (Value.slice A n c).ownBlock) (hB : B ≤ base) (hs : B ≤ w.heap.size) : Below B w w' :=
  (Below.refl _ _).grown hg hs (fun k e => Nat.le_trans hB (h.lo k e))
theorem Ost.wrote {W : World} {B : Nat} (hW : Below B W w) (h : Ost w base A n c ws) (hg : w.grownBy w' (Value.slice A n c).ownBlock) (hB : B ≤ base) (hs : B ≤ w.heap.size) : Below B W w' :=
  hW.grown hg hs (fun k e => Nat.le_trans hB (h.lo k e))
end
theorem Ost.nil (w : World) (base : Nat) : Ost w base none 0 0 [] := World.ownsRow_nil _ _ _ _
/-- The first m of a row. -/
theorem own_take {w : World} {base : Nat} {e : TypeId} {A : Option Addr} {n c m : Nat} {xs : List Value} (h : w.ownsRow base e 1 (.slice A n c) n xs) (hm : m ≤ n) : w.ownsRow base e 1 (.slice A m c) m (xs.take m) := by
  refine ⟨by have := h.1; rw [List.length_take]; omega, ?_⟩
  rcases h.2 with ⟨h1, h2⟩ | ⟨g, cap, cur, h1, h2, h3, h4, h5, h6, h7⟩
  · injection h1 with h1 _ h8
    subst h1 h8
    exact .inl ⟨by rw [show m = 0 by omega], by omega⟩
  · injection h1 with h1 _ h8
    subst h1 h8
    exact .inr ⟨g, c, cur, rfl, h2, h3, by omega, h5, h6, by rw [← h7, List.take_take]; congr 1; omega⟩
/-- What a function that hands back new strings with a code leaves. -/
def NewStrsC (w : World) (r : List (List UInt8) × Int) (e : Ending) (w' : World) : Prop :=
  ∃ A c, e = .returned (.tuple #[.slice A r.1.length c, .int .i64 r.2]) ∧ Ost w' w.heap.size A r.1.length c r.1 ∧ Below w.heap.size w w'

def marksS (k : Nat) (n : Nat) : List (List UInt8) := (List.range n).map fun j => mkT (k + j)
theorem marksS_len (k : Nat) (n : Nat) : (marksS k n).length = n := by simp [marksS]
theorem marksS_at {k : Nat} {n j : Nat} (h : j < n) : (marksS k n)[j]? = some (mkT (k + j)) := by simp [marksS, h]
theorem marksS_succ (k : Nat) (n : Nat) : marksS k (n + 1) = marksS k n ++ [mkT (k + n)] := by simp [marksS, List.range_succ]
def MarkedS (w : World) (base : Nat) (A : Option Addr) (n c : Nat) (k : Nat) (e : Ending) (w' : World) : Prop :=
  e = .returned (.int .i64 ((k + n : Nat) : Int)) ∧ Ost w' base A n c (marksS k n) ∧ w.grownBy w' (Value.slice A n c).ownBlock
theorem set_take1 {ys : List Value} {k : Nat} {v : Value} (hk : k < ys.length) : (ys.set k v).take (k + 1) = ys.take k ++ [v] := by
  rw [List.take_add_one, List.take_set_of_le (Nat.le_refl k)]
  simp [hk]

end Go.Proofs.Ytaehkkcaoniphaa

/- impl.areCodes, impl.ratesOn. -/
namespace Go.Proofs.Ytaehkkcaoniphaa
open Go.ChangeShapes Go.WideShapes Go.ChangeAt Go.RowKit
set_option linter.unusedVariables false

/-! ### the book and the list -/
theorem book_some {rs : List Rt} : ∀ {x : Int × Int} {r : Rt}, bookF rs x = some r → (r ∈ rs ∧ x = (keyN r.c, r.day)) ∨ (x = (keyN xdr, 0) ∧ r = one) := by
  refine rev_ind (P := fun rs => ∀ {x : Int × Int} {r : Rt}, bookF rs x = some r → (r ∈ rs ∧ x = (keyN r.c, r.day)) ∨ (x = (keyN xdr, 0) ∧ r = one)) ?_ ?_ rs
  · intro x r h
    unfold bookF upd at h
    simp only [List.foldl_nil] at h
    split at h
    · rename_i e; exact .inr ⟨e, (Option.some.inj h).symm⟩
    · cases h
  · intro rs q ih x r h
    rw [bookF_snoc] at h
    unfold upd at h
    split at h
    · rename_i e; obtain rfl := Option.some.inj h; exact .inl ⟨by simp, e⟩
    · rcases ih h with ⟨h1, h2⟩ | h1
      · exact .inl ⟨by simp [h1], h2⟩
      · exact .inr h1
theorem upd_some {f : Int × Int → Option Rt} {x y : Int × Int} {r : Rt} (h : (f y).isSome = true) : (upd f x r y).isSome = true := by
  unfold upd; split
  · rfl
  · exact h
theorem book_has {rs : List Rt} : ∀ {r : Rt}, r ∈ rs → (bookF rs (keyN r.c, r.day)).isSome = true := by
  refine rev_ind (P := fun rs => ∀ {r : Rt}, r ∈ rs → (bookF rs (keyN r.c, r.day)).isSome = true) ?_ ?_ rs
  · intro r h; cases h
  · intro rs q ih r h
    rw [bookF_snoc]
    rcases List.mem_append.1 h with h | h
    · exact upd_some (ih h)
    · simp at h; subst h; unfold upd; rw [if_pos rfl]; rfl
theorem book_xdr (rs : List Rt) : (bookF rs (keyN xdr, 0)).isSome = true := by
  refine rev_ind (P := fun rs => (bookF rs (keyN xdr, 0)).isSome = true) ?_ ?_ rs
  · unfold bookF upd; simp
  · intro rs q ih; rw [bookF_snoc]; exact upd_some ih
theorem mem_ok {rs : List Rt} (h : tabB rs = true) {r : Rt} (hr : r ∈ rs) : r.ok = true := by
  obtain ⟨k, hk⟩ := List.getElem?_of_mem hr
  exact tab_ok h hk
theorem book_wf {rs : List Rt} (ht : tabB rs = true) (x : Int × Int) (r : Rt) (h : bookF rs x = some r) : Wf x ∧ 0 ≤ x.2 := by
  rcases book_some h with ⟨h1, rfl⟩ | ⟨rfl, _⟩
  · have := Rt.ok_iff.1 (mem_ok ht h1)
    exact ⟨wf_key this.1 (by omega) (by omega), this.2.2.1.1⟩
  · exact ⟨wf_key xdr_code (by decide) (by decide), by decide⟩
/-- A rate that holds for a currency on a day. -/
def GoodR (rs : List Rt) (day : Int) (c : List UInt8) (r : Rt) : Prop := rateL c day rs = (r.num, r.den) ∧ 1 ≤ r.num ∧ r.num ≤ 1000000 ∧ 1 ≤ r.den ∧ r.den ≤ 1000000
theorem book_latest {rs : List Rt} (ht : tabB rs = true) {c : List UInt8} (hc : codeB c = true) {day : Int} (hd : 0 ≤ day) {r : Rt} {ok : Bool} (h : Latest (bookF rs) (keyN c) day r ok) :
    (ok = true ∧ GoodR rs day c r) ∨ (ok = false ∧ rateL c day rs = (0, 0)) := by
  by_cases hx : c = xdr
  · subst hx
    have hone : ∀ g r, bookF rs (keyN xdr, g) = some r → r = one := fun g r h => by
      rcases book_some h with ⟨h1, h2⟩ | ⟨_, h1⟩
      · have := Rt.ok_iff.1 (mem_ok ht h1)
        injection h2 with h2 _
        exact absurd (keyN_inj xdr_code this.1 h2).symm this.2.1
      · exact h1
    rcases h with ⟨rfl, g, h1, _⟩ | ⟨rfl, _, h1⟩
    · left
      obtain rfl := hone _ _ h1
      exact ⟨rfl, by unfold rateL; rw [if_pos rfl]; rfl, by decide, by decide, by decide, by decide⟩
    · have := book_xdr rs
      rw [h1 0 (wf_key xdr_code (by decide) (by decide)) hd] at this
      cases this
  · have hin : ∀ g r, bookF rs (keyN c, g) = some r → r ∈ rs ∧ r.c = c ∧ r.day = g := fun g r h => by
      rcases book_some h with ⟨h1, h2⟩ | ⟨h1, _⟩
      · have := Rt.ok_iff.1 (mem_ok ht h1)
        injection h2 with h2 h3
        exact ⟨h1, (keyN_inj hc this.1 h2).symm, h3.symm⟩
      · injection h1 with h1 _
        exact absurd (keyN_inj hc xdr_code h1) hx
    have hwf : ∀ q ∈ rs, q.c = c → Wf (keyN c, q.day) := fun q hq hqc => by
      have := Rt.ok_iff.1 (mem_ok ht hq)
      exact wf_key hc (by omega) (by omega)
    rcases h with ⟨rfl, g, h1, h2, h3⟩ | ⟨rfl, _, h1⟩
    · left
      obtain ⟨m1, m2, m3⟩ := hin g r h1
      have hok := Rt.ok_iff.1 (mem_ok ht m1)
      refine ⟨rfl, ?_, hok.2.2.2.1.1, hok.2.2.2.1.2, hok.2.2.2.2.1, hok.2.2.2.2.2⟩
      unfold rateL
      rw [if_neg hx]
      cases hl : lastOn c day rs with
      | none => exact absurd ⟨m2, by omega⟩ (lastOn_none hl r m1)
      | some q =>
        obtain ⟨k, k1, k2, k3, _⟩ := lastOn_some hl
        have hq := List.mem_of_getElem? k1
        have h4 := book_has hq
        rw [k2] at h4
        have h5 := h3 q.day (hwf q hq k2) h4 k3
        rw [lastOn_max ht hl m1 m2 (by omega) (by omega)]
    · right
      refine ⟨rfl, ?_⟩
      unfold rateL
      rw [if_neg hx]
      cases hl : lastOn c day rs with
      | none => rfl
      | some q =>
        obtain ⟨k, k1, k2, k3, _⟩ := lastOn_some hl
        have hq := List.mem_of_getElem? k1
        have h4 := book_has hq
        rw [k2, h1 q.day (hwf q hq k2) k3] at h4
        cases h4

/-! ### areCodes -/
theorem codes_no {cs : List (List UInt8)} {k : Nat} {c : List UInt8} (hc : cs[k]? = some c) (h : codeB c = false) : cs.all codeB = false := by
  rw [List.all_eq_false]; exact ⟨c, List.mem_of_getElem? hc, by simp [h]⟩
set_option maxRecDepth 100000 in
set_option maxHeartbeats 2000000 in
theorem areCodes_i (A : Option Addr) (d : Nat) (cs : List (List UInt8)) (w : World) (hS : Sr w A cs) (hl : ∀ c ∈ cs, c.length ≤ 9223372036854775807) (hn : cs.length ≤ 1048576) :
    Calls Try.prog 77 #[.slice A cs.length d] w fun e w' => e = .returned (.bool (cs.all codeB)) ∧ w = w' := by
  go_enter Try.func77, Try.ntmps77
  go_wp2_with fail
  go_loop [7] (fun i => ∃ k : Nat, k ≤ cs.length ∧ i = .int .i64 k ∧ Hid ((cs.take k).all codeB = true)) (fun i => cs.length - (intOf i).toNat)
  case atStart => exact ⟨0, Nat.zero_le _, rfl, Lib.hid rfl⟩
  case round =>
    obtain ⟨k, hk, rfl, ht⟩ := hrel
    by_cases hlt : k < cs.length
    · obtain ⟨b, off, c, rfl, hb, c0, hc⟩ := hS.at hlt
      have hcl := hl c (List.mem_of_getElem? hc.out)
      rcases Bool.eq_false_or_eq_true (codeB c) with he | he
      · have HT : Hid ((cs.take (k + 1)).all codeB = true) := Lib.hid (by rw [snoc_of hc.out, List.all_append, ht.out]; simp [he])
        clear hS hc ht hl
        go_wp2_with (go_at_call 30; refine (codeI_q (by assumption) hcl _).mono ?_; rintro e w' ⟨rfl, rfl⟩)
        go_round
        case rel => exact ⟨k + 1, by omega, by go_num, HT⟩
        case measure => simp [intOf]; omega
      · have E := Lib.hid (codes_no hc.out he)
        clear hS hc ht hl
        go_wp2_with (go_at_call 30; refine (codeI_q (by assumption) hcl _).mono ?_; rintro e w' ⟨rfl, rfl⟩)
        go_ret
        exact ⟨by rw [E.out] <;> rfl, rfl⟩
    · have E : Hid (cs.all codeB = true) := Lib.hid (by have := ht.out; rwa [take_all hk hlt] at this)
      clear ht hS hl
      go_wp2_with fail
      go_ret
      exact ⟨by rw [E.out] <;> rfl, rfl⟩
theorem areCodes_q {A : Option Addr} {d : Nat} {cs : List (List UInt8)} {w : World} {b : Bool} (hb : cs.all codeB = b) (hS : Sr w A cs) (hl : ∀ c ∈ cs, c.length ≤ 9223372036854775807) (hn : cs.length ≤ 1048576) :
    Calls Try.prog 77 #[.slice A cs.length d] w fun e w' => e = .returned (.bool b) ∧ w = w' := by
  subst hb; exact areCodes_i A d cs w hS hl hn
end Go.Proofs.Ytaehkkcaoniphaa

/- impl.ratesOn. -/
namespace Go.Proofs.Ytaehkkcaoniphaa
open Go.ChangeShapes Go.WideShapes Go.ChangeAt Go.RowKit
set_option linter.unusedVariables false

def noRate (rs : List Rt) (day : Int) (c : List UInt8) : Bool := (rateL c day rs).2 == 0
def ratesC (rs : List Rt) (day : Int) (cs : List (List UInt8)) : Int :=
  if (tabB rs && cs.all codeB) = true then (if inr day 0 36524 = true then (if cs.any (noRate rs day) = true then 4 else 0) else 2) else 1
/-- Rates of the currencies, in their order. -/
def GoodRs (rs : List Rt) (day : Int) (cs : List (List UInt8)) (ys : List Rt) : Prop := ys.length = cs.length ∧ ∀ (k : Nat) (c : List UInt8), cs[k]? = some c → ∃ r, ys[k]? = some r ∧ GoodR rs day c r
theorem GoodRs.nil (rs : List Rt) (day : Int) : GoodRs rs day [] [] := ⟨rfl, fun k c h => by simp at h⟩
theorem GoodRs.snoc {rs : List Rt} {day : Int} {cs : List (List UInt8)} {ys : List Rt} {c : List UInt8} {r : Rt} (h : GoodRs rs day cs ys) (hr : GoodR rs day c r) : GoodRs rs day (cs ++ [c]) (ys ++ [r]) := by
  refine ⟨by simp [h.1], fun k c' hc => ?_⟩
  rcases Nat.lt_or_ge k cs.length with hk | hk
  · rw [List.getElem?_append_left hk] at hc
    obtain ⟨q, h1, h2⟩ := h.2 k c' hc
    exact ⟨q, by rw [List.getElem?_append_left (by rw [h.1]; exact hk)]; exact h1, h2⟩
  · rw [List.getElem?_append_right hk] at hc
    have hz : k - cs.length = 0 := by have := (List.getElem?_eq_some_iff.1 hc).1; simp at this; omega
    rw [hz] at hc; simp at hc; subst hc
    exact ⟨r, by rw [List.getElem?_append_right (by rw [h.1]; exact hk), h.1, hz]; rfl, hr⟩
theorem good_den {rs : List Rt} {day : Int} {c : List UInt8} {r : Rt} (h : GoodR rs day c r) : noRate rs day c = false := by
  unfold noRate; rw [h.1, beq_eq_false_iff_ne]; have := h.2.2.2.1; simp only; omega
theorem GoodRs.none {rs : List Rt} {day : Int} {cs : List (List UInt8)} {ys : List Rt} (h : GoodRs rs day cs ys) : cs.any (noRate rs day) = false := by
  rw [List.any_eq_false]
  intro c hc
  obtain ⟨k, hk⟩ := List.getElem?_of_mem hc
  obtain ⟨r, _, h2⟩ := h.2 k c hk
  rw [good_den h2]; exact Bool.false_ne_true
theorem any_of {rs : List Rt} {day : Int} {cs : List (List UInt8)} {k : Nat} {c : List UInt8} (hc : cs[k]? = some c) (h : rateL c day rs = (0, 0)) : cs.any (noRate rs day) = true := by
  rw [List.any_eq_true]; exact ⟨c, List.mem_of_getElem? hc, by unfold noRate; rw [h]; rfl⟩
/-- What 'ratesOn' leaves. -/
def RatesP (w : World) (rs : List Rt) (day : Int) (cs : List (List UInt8)) (e : Ending) (w' : World) : Prop :=
  ∃ A q ys, e = .returned (.tuple #[.slice A ys.length q, .int .i64 (ratesC rs day cs)]) ∧ Or w' w.heap.size A ys.length q ys ∧ (ratesC rs day cs = 0 → GoodRs rs day cs ys) ∧ Below w.heap.size w w'
theorem Or.nil (w : World) (base : Nat) : Or w base none 0 0 [] := World.ownsRow_nil _ _ _ _
theorem rates_1 {rs : List Rt} {day : Int} {cs : List (List UInt8)} (h : (tabB rs && cs.all codeB) = false) : ratesC rs day cs = 1 := by simp [ratesC, h]
theorem rates_2 {rs : List Rt} {day : Int} {cs : List (List UInt8)} (h : tabB rs = true) (h2 : cs.all codeB = true) (h3 : inr day 0 36524 = false) : ratesC rs day cs = 2 := by unfold ratesC; rw [h, h2, h3]; rfl
theorem rates_4 {rs : List Rt} {day : Int} {cs : List (List UInt8)} (h : tabB rs = true) (h2 : cs.all codeB = true) (h3 : inr day 0 36524 = true) (h4 : cs.any (noRate rs day) = true) : ratesC rs day cs = 4 := by unfold ratesC; rw [h, h2, h3, h4]; rfl
theorem rates_0 {rs : List Rt} {day : Int} {cs : List (List UInt8)} (h : tabB rs = true) (h2 : cs.all codeB = true) (h3 : inr day 0 36524 = true) (h4 : cs.any (noRate rs day) = false) : ratesC rs day cs = 0 := by unfold ratesC; rw [h, h2, h3, h4]; rfl
theorem latest_q {rs : List Rt} (ht : tabB rs = true) {s : List UInt8} {day : Int} {w : World} {b n : Nat} {D : DataW Value} (hown : w.ownsMap Try.prog 116 rV b n D) (hD : Bkd D (bookF rs)) (hs : codeB s = true) (hd : inr day 0 36524 = true) :
    Calls Try.prog 80 #[.map (some b), .string ⟨s.toArray⟩, .int .i64 day] w fun e w' => ∃ (r : Rt) (ok : Bool), e = .returned (.tuple #[.agg #[.string ⟨r.c.toArray⟩, .int .i64 r.day, .int .i64 r.num, .int .i64 r.den], .bool ok]) ∧
      ((ok = true ∧ GoodR rs day s r) ∨ (ok = false ∧ rateL s day rs = (0, 0))) ∧ Below w.heap.size w w' := by
  refine (latest_i s day w b n D (bookF rs) hown hD (book_wf ht) hs (inr_iff.1 hd)).mono ?_
  rintro e w' ⟨r, ok, h1, h2, h3⟩
  exact ⟨r, ok, h1, book_latest ht hs (inr_iff.1 hd).1 h2, h3⟩

set_option maxRecDepth 100000 in
set_option maxHeartbeats 4000000 in
theorem ratesOn_i (A : Option Addr) (c : Nat) (rs : List Rt) (day : Int) (B : Option Addr) (d : Nat) (cs : List (List UInt8)) (w : World) (h : Tbl w A rs) (hS : Sr w B cs) (hl : ∀ c ∈ cs, c.length ≤ 9223372036854775807) (hn : cs.length ≤ 2) :
    Calls Try.prog 56 #[.slice A rs.length c, .int .i64 day, .slice B cs.length d] w (RatesP w rs day cs) := by
  obtain ⟨i0, hi, hz0, hz1, hz2⟩ := info_parts rateInfo
  rcases Bool.eq_false_or_eq_true (tabB rs) with ht | ht
  · have HT := Lib.hid (tabI_q (c := c) h ht)
    rcases Bool.eq_false_or_eq_true (cs.all codeB) with hc | hc
    · rcases Bool.eq_false_or_eq_true (inr day 0 36524) with hd | hd
      · have HB := Lib.hid (fun w' => bookOf_i A c rs w')
        have H4 := Lib.hid (fun h4 => rates_4 ht hc hd h4)
        have H0 := Lib.hid (fun h4 => rates_0 ht hc hd h4)
        have HL := Lib.hid (fun (w : World) (b n : Nat) (D : DataW Value) hown hD s hs => latest_q (w := w) (b := b) (n := n) (D := D) (s := s) (day := day) ht hown hD hs hd)
        have HN := Lib.hid h.len
        go_enter Try.func56, Try.ntmps56
        go_wp2_with (first
          | (go_at_call 17; refine HT.out.mono ?_; rintro e w1 ⟨rfl, b1⟩; have hS1 := hS.below b1; have h1 := h.below b1)
          | (go_at_call 77; refine (areCodes_q hc hS1 hl (by omega)).mono ?_; rintro e w' ⟨rfl, rfl⟩)
          | (go_at_call 78; refine (isDay_q hd _).mono ?_; rintro e w' ⟨rfl, rfl⟩)
          | (go_at_call 79; refine (HB.out w1 h1 ht).mono ?_; rintro e w2 ⟨D, rfl, hown, hD, b2⟩; have hS2 := hS1.below b2; have hb2 := belowGo b1 b2))
        generalize w1.heap.size = mb at *
        have hD2 := Lib.hid hD
        clear HT HB hS hS1 h h1 b2 b1 ht hd hD
        go_loopw [9, 30] (fun o i wr => ∃ (k : Nat) (ys : List Rt), k ≤ cs.length ∧ i = .int .i64 k ∧ wr.ownsRow w2.heap.size 30 4 o ys.length (ys.flatMap Rt.cells) ∧ Hid (GoodRs rs day (cs.take k) ys) ∧ Below w2.heap.size w2 wr) (fun _ i _ => cs.length - (intOf i).toNat)
        case atStart => exact ⟨0, [], Nat.zero_le _, rfl, made0 _ _ _ _ (Nat.le_refl _), Lib.hid (GoodRs.nil _ _), below_alloc _ _⟩
        case round =>
          obtain ⟨k, ys, hk, rfl, hrow, hys, hb⟩ := hrel
          obtain ⟨O, q, rfl⟩ := own_form hrow
          have hyl : ys.length ≤ 2 := by rw [hys.out.1, List.length_take]; omega
          by_cases hlt : k < cs.length
          · obtain ⟨b, off, s, rfl, hbl, c0, hs⟩ := (hS2.below hb).at hlt
            have hcd : codeB s = true := List.all_eq_true.1 hc s (List.mem_of_getElem? hs.out)
            have HC := Lib.hid (HL.out wr mb _ D (owns_below hown hb) hD2.out s hcd)
            have HG := Lib.hid (fun (r : Rt) (hr : GoodR rs day s r) => (by rw [snoc_of hs.out]; exact hys.out.snoc hr : GoodRs rs day (cs.take (k + 1)) (ys ++ [r])))
            have HE := Lib.hid (fun hr : rateL s day rs = (0, 0) => H4.out (any_of hs.out hr))
            clear hS2 hs hys hc hl
            go_wp2_with (first
              | (go_at_call 80; refine HC.out.mono ?_; rintro e w3 ⟨r, ok, rfl, hr, b3⟩
                 have hb3 := hb.trans (b3.mono hb.size)
                 have hrow3 := (own_below hrow b3).alloc (.cells #[.string ⟨r.c.toArray⟩, .int .i64 r.day, .int .i64 r.num, .int .i64 r.den] 30)
                 have hsz : w2.heap.size ≤ (w3.alloc (.cells #[.string ⟨r.c.toArray⟩, .int .i64 r.day, .int .i64 r.num, .int .i64 r.den] 30)).heap.size := Nat.le_trans hb3.size (by simp)
                 have hsz := Lib.hid hsz
                 have hzz : Hid (w3.heap.size + 1 = (w3.alloc (.cells #[.string ⟨r.c.toArray⟩, .int .i64 r.day, .int .i64 r.num, .int .i64 r.den] 30)).heap.size) := Lib.hid (by simp)
                 rcases hr with ⟨rfl, hr⟩ | ⟨rfl, hr⟩)
              | (at_builtin; refine wpList_push _ rfl (.tmp 43) (.tmp 45) 24 rfl w2.heap.size 30 i0 _ 4 40 Try.underlying24 hi hz0 hz1 hz2 rfl (by decide) _ ys.length _ rfl hrow3 [.string ⟨r.c.toArray⟩, .int .i64 r.day, .int .i64 r.num, .int .i64 r.den] rfl (by simp [Value.oneCell']) (congrArg (fun n => Value.slice (some ⟨n, 0, none⟩) 1 1) hzz.out) (by unfold maxLen; omega) (by omega) hsz.out ?_; intro v' w' hown' hb'))
            · refine ⟨⟨k + 1, ys ++ [r], by omega, by go_num, by simpa [Rt.cells] using hown', Lib.hid (HG.out r hr), hb3.trans (((Below.refl _ _).alloc (Nat.le_refl _) _ |>.mono hb3.size).trans hb')⟩, ?_⟩
              simp [intOf]; omega
            · have E := Lib.hid (HE.out hr)
              go_ret2
              unfold RatesP
              rw [E.out]
              exact ⟨none, 0, [], rfl, Or.nil _ _, (fun h => absurd h (by decide)), hb2.trans ((hb3.alloc hb3.size _).mono hb2.size)⟩
          · have HG : Hid (GoodRs rs day cs ys) := Lib.hid (by have := hys.out; rwa [take_all hk hlt] at this)
            have E := Lib.hid (H0.out HG.out.none)
            clear hys hS2 hl
            go_wp2_with fail
            go_ret2
            unfold RatesP
            rw [E.out]
            exact ⟨O, q, ys, rfl, Or.mono hrow hb2.size, fun _ => HG.out, hb2.trans (hb.mono hb2.size)⟩
      · have E := Lib.hid (rates_2 ht hc hd)
        go_enter Try.func56, Try.ntmps56
        go_wp2_with (first
          | (go_at_call 17; refine HT.out.mono ?_; rintro e w1 ⟨rfl, b1⟩; have hS1 := hS.below b1)
          | (go_at_call 77; refine (areCodes_q hc hS1 hl (by omega)).mono ?_; rintro e w' ⟨rfl, rfl⟩)
          | (go_at_call 78; refine (isDay_q hd _).mono ?_; rintro e w' ⟨rfl, rfl⟩))
        go_ret2
        unfold RatesP
        rw [E.out]
        exact ⟨none, 0, [], rfl, Or.nil _ _, (fun h => absurd h (by decide)), b1⟩
    · have E := Lib.hid (rates_1 (rs := rs) (day := day) (cs := cs) (by rw [hc, Bool.and_false]))
      go_enter Try.func56, Try.ntmps56
      go_wp2_with (first
        | (go_at_call 17; refine HT.out.mono ?_; rintro e w1 ⟨rfl, b1⟩; have hS1 := hS.below b1)
        | (go_at_call 77; refine (areCodes_q hc hS1 hl (by omega)).mono ?_; rintro e w' ⟨rfl, rfl⟩))
      go_ret2
      unfold RatesP
      rw [E.out]
      exact ⟨none, 0, [], rfl, Or.nil _ _, (fun h => absurd h (by decide)), b1⟩
  · have HT := Lib.hid (tabI_q (c := c) h ht)
    have E := Lib.hid (rates_1 (rs := rs) (day := day) (cs := cs) (by rw [ht, Bool.false_and]))
    go_enter Try.func56, Try.ntmps56
    go_wp2_with (go_at_call 17; refine HT.out.mono ?_; rintro e w1 ⟨rfl, b1⟩)
    go_ret2
    unfold RatesP
    rw [E.out]
    exact ⟨none, 0, [], rfl, Or.nil _ _, (fun h => absurd h (by decide)), b1⟩
end Go.Proofs.Ytaehkkcaoniphaa

/- The law of DaysWithRate. -/
namespace Go.Proofs.Ytaehkkcaoniphaa
open Go.ChangeShapes Go.WideShapes Go.ChangeAt Go.RowKit
set_option linter.unusedVariables false

theorem Or.far {w w' : World} {base n c : Nat} {A : Option Addr} {xs : List Rt} {B : Nat} (h : Or w base A n c xs) (hg : w.grownBy w' (Value.slice A n c).ownBlock) (hB : B ≤ base) (hs : B ≤ w.heap.size) : Below B w w' :=
  (Below.refl _ _).grown hg hs (fun k e => Nat.le_trans hB (h.lo k e))
theorem Or.wrote {W w w' : World} {base n c : Nat} {A : Option Addr} {xs : List Rt} {B : Nat} (hW : Below B W w) (h : Or w base A n c xs) (hg : w.grownBy w' (Value.slice A n c).ownBlock) (hB : B ≤ base) (hs : B ≤ w.heap.size) : Below B W w' :=
  hW.grown hg hs (fun k e => Nat.le_trans hB (h.lo k e))
theorem daysR_len (rs : List Rt) (c : List UInt8) : (daysR rs c).1.length ≤ rs.length := by
  unfold daysR; split
  · split
    · simp
    · exact daysOf_len c rs
  · simp
end Go.Proofs.Ytaehkkcaoniphaa

/- RateOn: both sides. -/
namespace Go.Proofs.Ytaehkkcaoniphaa
open Go.ChangeShapes Go.WideShapes Go.ChangeAt Go.RowKit
set_option linter.unusedVariables false

def rateR (rs : List Rt) (c : List UInt8) (day : Int) : Int × Int × Int :=
  if ratesC rs day [c] = 0 then ((rateL c day rs).1, (rateL c day rs).2, 0) else (0, 0, ratesC rs day [c])
/-- One rate or an error. -/
theorem rates_one {w : World} {rs : List Rt} {day : Int} {c : List UInt8} {e : Ending} {w' : World} (h : RatesP w rs day [c] e w') :
    (∃ b off q r, e = .returned (.tuple #[.slice (some ⟨b, off, none⟩) 1 q, .int .i64 0]) ∧ ratesC rs day [c] = 0 ∧ Cells4 w' b off r ∧ GoodR rs day c r ∧ Below w.heap.size w w') ∨
    (∃ A n q k, e = .returned (.tuple #[.slice A n q, .int .i64 k]) ∧ ratesC rs day [c] = k ∧ k ≠ 0 ∧ Below w.heap.size w w') := by
  obtain ⟨A, q, ys, rfl, ho, hg, hb⟩ := h
  by_cases hk : ratesC rs day [c] = 0
  · left
    have hg := hg hk
    obtain ⟨r, h1, h2⟩ := hg.2 0 c rfl
    have hl : ys.length = 1 := hg.1
    rw [hl] at ho
    obtain ⟨b, off, r', rfl, _, hr, h4⟩ := ho.rr.four (k := 0) (by omega)
    rw [hr.out] at h1
    obtain rfl := Option.some.inj h1
    refine ⟨b, off, q, r', by rw [hl, hk], hk, by simpa using h4, h2, hb⟩
  · exact .inr ⟨A, _, q, _, rfl, rfl, hk, hb⟩
theorem sr_one (w : World) (c : List UInt8) : Sr (w.alloc (.cells #[.string ⟨c.toArray⟩] 9)) (some ⟨w.heap.size, 0, none⟩) [c] := fun _ =>
  ⟨w.heap.size, 0, rfl, by simp, fun j v hj => by
    rw [Nat.zero_add, cell_of_row _ _ _ _ _ _ (heap_alloc_new _ _)]
    simpa [encStr] using hj⟩

set_option maxRecDepth 100000 in
set_option maxHeartbeats 4000000 in
theorem rateOn_i (A : Option Addr) (d : Nat) (rs : List Rt) (c : List UInt8) (day : Int) (w : World) (h : Tbl w A rs) (hc : c.length ≤ 9223372036854775807) :
    Calls Try.prog 14 #[.slice A rs.length d, .string ⟨c.toArray⟩, .int .i64 day] w (Gives w (.tuple #[.int .i64 (rateR rs c day).1, .int .i64 (rateR rs c day).2.1, .int .i64 (rateR rs c day).2.2])) := by
  have b0 := below_alloc w (.cells #[.string ⟨c.toArray⟩] 9)
  have HR := Lib.hid (ratesOn_i A d rs day (some ⟨w.heap.size, 0, none⟩) 1 [c] _ (h.below b0) (sr_one w c) (by simpa using hc) (by simp))
  have E0 : Hid (∀ (r : Rt), ratesC rs day [c] = 0 → GoodR rs day c r → rateR rs c day = (r.num, r.den, 0)) := Lib.hid fun r h1 h2 => by unfold rateR; rw [if_pos h1, h2.1]
  have E1 : Hid (∀ k, ratesC rs day [c] = k → k ≠ 0 → rateR rs c day = (0, 0, k)) := Lib.hid fun k h1 h2 => by subst h1; unfold rateR; rw [if_neg h2]
  go_enter Try.func14, Try.ntmps14
  go_wp2_with (go_at_call 56; refine HR.out.mono ?_; rintro e w1 hp
               rcases rates_one hp with ⟨b, off, q, r, rfl, hk, h4, hg, b1⟩ | ⟨G, n, q, k, rfl, hk, hk0, b1⟩)
  · have E := Lib.hid (E0.out r hk hg)
    have c2 := h4.c2
    have c3 := h4.c3
    have t1 := belowGo b0 b1
    clear HR E0 E1 hp hk hg h4 h b0 b1
    go_quiet (fail)
    go_wp2_with fail
    go_ret3
    rw [E.out]
    exact ⟨rfl, belowGo t1 (below_drewN _ _)⟩
  · go_ret3
    rw [E1.out k hk hk0]
    exact ⟨rfl, belowGo b0 b1⟩

end Go.Proofs.Ytaehkkcaoniphaa

/- spec.l03Code -/
namespace Go.Proofs.Ytaehkkcaoniphaa
open Go.ChangeShapes Go.WideShapes Go.ChangeAt Go.RowKit
set_option linter.unusedVariables false

/-! ### the spec's side -/
def cdB (bt bf bc bd ba : Bool) : Int := if (bt && bf && bc) = true then (if (bd && ba) = true then 0 else 2) else 1
theorem ways5 (bt bf bc bd ba : Bool) : (bt = false ∧ cdB bt bf bc bd ba = 1) ∨ (bt = true ∧ bf = false ∧ cdB bt bf bc bd ba = 1) ∨ (bt = true ∧ bf = true ∧ bc = false ∧ cdB bt bf bc bd ba = 1) ∨
    (bt = true ∧ bf = true ∧ bc = true ∧ bd = false ∧ cdB bt bf bc bd ba = 2) ∨ (bt = true ∧ bf = true ∧ bc = true ∧ bd = true ∧ ba = false ∧ cdB bt bf bc bd ba = 2) ∨ (bt = true ∧ bf = true ∧ bc = true ∧ bd = true ∧ ba = true ∧ cdB bt bf bc bd ba = 0) := by
  revert bt bf bc bd ba; decide
set_option maxRecDepth 100000 in
set_option maxHeartbeats 4000000 in
theorem l03Code_q {A : Option Addr} {d : Nat} {rs : List Rt} {f t : List UInt8} {day amount : Int} {w : World} {bt bf bc bd ba : Bool} (h : Tbl w A rs) (hf : f.length ≤ 9223372036854775807) (ht : t.length ≤ 9223372036854775807)
    (h1 : tabB rs = bt) (h2 : codeB f = bf) (h3 : codeB t = bc) (h4 : inr day 0 36524 = bd) (h5 : amt amount = ba) :
    Calls Try.prog 46 #[.slice A rs.length d, .string ⟨f.toArray⟩, .string ⟨t.toArray⟩, .int .i64 day, .int .i64 amount] w (Gives w (.int .i64 (cdB bt bf bc bd ba))) := by
  have HT := Lib.hid (tabS_q (c := d) h h1)
  have HD := Lib.hid (fun w => is_q h4 w)
  have HA := Lib.hid (fun w => isAmount_s amount w)
  rw [h5] at HA
  clear h1 h4 h5 h
  rcases ways5 bt bf bc bd ba with ⟨rfl, E⟩ | ⟨rfl, rfl, E⟩ | ⟨rfl, rfl, rfl, E⟩ | ⟨rfl, rfl, rfl, rfl, E⟩ | ⟨rfl, rfl, rfl, rfl, rfl, E⟩ | ⟨rfl, rfl, rfl, rfl, rfl, E⟩
  all_goals rw [E]
  all_goals have E := Lib.hid E
  all_goals
    go_enter Try.func46, Try.ntmps46
    go_wp2_with (first
      | (go_at_call 54; refine HT.out.mono ?_; rintro e w1 ⟨rfl, b1⟩)
      | (go_at_call 31; refine (codeS_q (by assumption) (by assumption) _).mono ?_; rintro e w' ⟨rfl, rfl⟩)
      | (go_at_call 71; refine (HD.out _).mono ?_; rintro e w' ⟨rfl, rfl⟩)
      | (go_at_call 49; refine (HA.out _).mono ?_; rintro e w' ⟨rfl, rfl⟩))
    go_ret
    exact ⟨rfl, b1⟩
end Go.Proofs.Ytaehkkcaoniphaa

/- spec.l03Rate -/
namespace Go.Proofs.Ytaehkkcaoniphaa
open Go.ChangeShapes Go.WideShapes Go.ChangeAt Go.RowKit
set_option linter.unusedVariables false

theorem rateL_snoc {c : List UInt8} (hc : c ≠ xdr) (day : Int) (rs : List Rt) (r : Rt) : rateL c day (rs ++ [r]) = if r.c = c ∧ r.day ≤ day then (r.num, r.den) else rateL c day rs := by
  unfold rateL
  rw [if_neg hc, if_neg hc, lastOn_snoc]
  by_cases e : r.c = c ∧ r.day ≤ day
  · rw [if_pos e, if_pos e]
  · rw [if_neg e, if_neg e]
set_option maxRecDepth 100000 in
set_option maxHeartbeats 4000000 in
theorem l03Rate_s (A : Option Addr) (d : Nat) (rs : List Rt) (c : List UInt8) (day : Int) (w : World) (h : Tbl w A rs) :
    Calls Try.prog 57 #[.slice A rs.length d, .string ⟨c.toArray⟩, .int .i64 day] w fun e w' => e = .returned (.tuple #[.int .i64 (rateL c day rs).1, .int .i64 (rateL c day rs).2, .bool (decide (0 < (rateL c day rs).2))]) ∧ w = w' := by
  rcases Bool.eq_false_or_eq_true (c == xdr) with hx | hx
  · have E : rateL c day rs = (1, 1) := by unfold rateL; rw [if_pos (by simpa using hx)]
    rw [E]
    have hx2 : (c == [88, 68, 82]) = true := hx
    go_enter Try.func57, Try.ntmps57
    go_wp2_with fail
    go_ret3
    exact ⟨rfl, rfl⟩
  · have hx2 : (c == [88, 68, 82]) = false := hx
    have hne : c ≠ xdr := by simpa using hx
    have HS := Lib.hid (fun (k : Nat) (r : Rt) (hr : rs[k]? = some r) => (by rw [snoc_of hr, rateL_snoc hne] : rateL c day (rs.take (k + 1)) = if r.c = c ∧ r.day ≤ day then (r.num, r.den) else rateL c day (rs.take k)))
    have h0 : rateL c day (rs.take 0) = (0, 0) := by unfold rateL; rw [if_neg hne]; rfl
    have hR := h.row
    have hn := h.len
    clear hne hx h
    go_enter Try.func57, Try.ntmps57
    go_wp2_with fail
    go_loop [9, 10, 11] (fun a b i => ∃ (k : Nat) (n m : Int), k ≤ rs.length ∧ i = .int .i64 k ∧ a = .int .i64 n ∧ b = .int .i64 m ∧ Hid (rateL c day (rs.take k) = (n, m))) (fun _ _ i => rs.length - (intOf i).toNat)
    case atStart => exact ⟨0, 0, 0, Nat.zero_le _, rfl, rfl, rfl, Lib.hid h0⟩
    case round =>
      obtain ⟨k, n, m, hk, rfl, rfl, rfl, hv⟩ := hrel
      by_cases hlt : k < rs.length
      · obtain ⟨b, off, r, rfl, hl, hr, h4⟩ := hR.four hlt
        have c0 := h4.c0; have c1 := h4.c1; have c2 := h4.c2; have c3 := h4.c3
        have HS := HS.out k r hr.out
        rw [hv.out] at HS
        rcases Bool.eq_false_or_eq_true (r.c == c) with he | he
        · by_cases hdy : r.day ≤ day
          · have hd : decide (r.day ≤ day) = true := by simpa using hdy
            have E := Lib.hid (HS.trans (if_pos ⟨by simpa using he, hdy⟩))
            clear HS h4 hR hr hv h0
            go_wp2_with fail
            go_round
            case rel => exact ⟨k + 1, _, _, by omega, by go_num, rfl, rfl, E⟩
            case measure => simp [intOf]; omega
          · have hd : decide (r.day ≤ day) = false := by simpa using hdy
            have E := Lib.hid (HS.trans (if_neg (fun h => hdy h.2)))
            clear HS h4 hR hr hv h0
            go_wp2_with fail
            go_round
            case rel => exact ⟨k + 1, _, _, by omega, by go_num, rfl, rfl, E⟩
            case measure => simp [intOf]; omega
        · have E := Lib.hid (HS.trans (if_neg (fun h => by rw [h.1] at he; simp at he)))
          clear HS h4 hR hr hv h0
          go_wp2_with fail
          go_round
          case rel => exact ⟨k + 1, _, _, by omega, by go_num, rfl, rfl, E⟩
          case measure => simp [intOf]; omega
      · have E : Hid (rateL c day rs = (n, m)) := Lib.hid (by have := hv.out; rwa [take_all hk hlt] at this)
        clear hv hR HS h0
        go_wp2_with fail
        go_ret3
        rw [E.out]
        exact ⟨rfl, rfl⟩
end Go.Proofs.Ytaehkkcaoniphaa

