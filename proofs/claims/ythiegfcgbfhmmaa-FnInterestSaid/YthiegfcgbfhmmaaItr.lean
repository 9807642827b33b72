/- impl.daysOf: the days of a schedule, each with its points: what the generator hands out. -/
import Derived.Test.YthiegfcgbfhmmaaWgt
import Derived.RangeFuncNested
import Derived.RangeFuncBound
import Derived.RangeFuncCalls
import Derived.RangeFuncLeaves
import Derived.RangeFuncBox
import Derived.Shelf.Abstract
import Derived.Shelf.RegionOpen
import Derived.WalkKit
import Derived.OwnWalkIn
import Derived.TacticsInMore
import Derived.LoopNIn
import Derived.LoopIn
import Derived.BigRegionIn
import Derived.Sort.QuietIn
namespace Go.Proofs.Ythiegfcgbfhmmaa
open Go.ChangeShapes Go.WideShapes Go.ChangeAt Go.RowKit Go.Shelf
set_option linter.unusedVariables false
attribute [local go_sem] Oper.semAt_some

/-- The sum of the points of days. -/
def sumN (rs : List St) (f : Int) (js : List Nat) : Int := isum (js.map fun j => onL rs (f + (j : Nat)))
theorem sumN_snoc (rs : List St) (f : Int) (js : List Nat) (j : Nat) : sumN rs f (js ++ [j]) = sumN rs f js + onL rs (f + (j : Nat)) := by
  unfold sumN; rw [List.map_append, List.map_cons, List.map_nil, isum_snoc]
theorem sumN_bd {rs : List St} (hs : schB rs = true) (f : Int) (js : List Nat) : 0 ≤ sumN rs f js ∧ sumN rs f js ≤ 10000 * js.length := by
  induction js with
  | nil => simp [sumN, isum]
  | cons j js ih =>
    have := onL_bd hs (f + (j : Nat))
    simp only [sumN, List.map_cons, isum, List.length_cons] at ih ⊢
    omega
theorem sumN_range {rs : List St} (hs : schB rs = true) (f : Int) : ∀ k : Nat, sumN rs f (List.range k) = wgt rs f (f + (k : Nat)) := by
  intro k
  induction k with
  | zero => rw [wgt_none (by omega)]; rfl
  | succ k ih =>
    rw [List.range_succ, sumN_snoc, ih, show f + ((k + 1 : Nat) : Int) = f + (k : Nat) + 1 by omega, wgt_succ hs (by omega)]
/-- Whatever lay below n stands as it did, but for one block. -/
structure KeepX (n B : Nat) (W W' : World) : Prop where
  size : W.heap.size ≤ W'.heap.size
  same : ∀ k, k < n → k ≠ B → k < W.heap.size → W'.heap[k]? = W.heap[k]?
theorem KeepX.refl (n B : Nat) (W : World) : KeepX n B W W := ⟨Nat.le_refl _, fun _ _ _ _ => rfl⟩
theorem KeepX.trans {n B : Nat} {X Y Z : World} (h : KeepX n B X Y) (k : KeepX n B Y Z) : KeepX n B X Z :=
  ⟨Nat.le_trans h.size k.size, fun i hi hb hs => (k.same i hi hb (Nat.lt_of_lt_of_le hs h.size)).trans (h.same i hi hb hs)⟩
theorem KeepX.put {n B : Nat} {w : World} (hn : n ≤ w.heap.size) (W : World) (l : Nat) (o o' : Obj) (hl : w.heap.size ≤ l) (_ : W.heap[l]? = some o) (_ : o.isCells = false) (_ : o.isWalk = false) : KeepX n B W (W.putObj l o') :=
  ⟨by simp, fun k hk _ _ => World.putObj_heap_other (by omega)⟩
theorem KeepX.of_below {n B : Nat} {W W' : World} (h : Below W.heap.size W W') : KeepX n B W W' := ⟨h.size, fun k _ _ hs => h.block k hs⟩
theorem KeepX.set {n B : Nat} (W : World) (v : Value) : KeepX n B W (W.setCell ⟨B, 0, none⟩ v) :=
  ⟨by simp, fun k _ hb _ => Below.heap_setCell _ _ _ k (fun e => hb (by rw [e]))⟩
theorem KeepX.cell {n B : Nat} {W W' : World} (h : KeepX n B W W') {k o : Nat} {v : Value} (hk : k < n) (hb : k ≠ B) (hc : W.cell? ⟨k, o, none⟩ = some v) : W'.cell? ⟨k, o, none⟩ = some v :=
  (World.cell?_of_block (h.same k hk hb (World.block_lt_of_cell? W _ hc))).trans hc
def lenV : Value → Nat
  | .slice _ n _ => n
  | _ => 0
/-- The steps that are still ahead. -/
def Ahead (b off len cap k : Nat) (a : Value) : Prop :=
  (k < len ∧ a = .slice (some ⟨b, off + k * 2, none⟩) (len - k) (cap - k)) ∨ (k = len ∧ ∃ x c, a = .slice x 0 c)
theorem Ahead.len {b off len cap k : Nat} {a : Value} (h : Ahead b off len cap k a) (hk : k ≤ len) : lenV a = len - k := by
  rcases h with ⟨_, rfl⟩ | ⟨rfl, x, c, rfl⟩
  · rfl
  · simp [lenV]
/-- The points that hold when k steps have begun. -/
def begun (rs : List St) : Nat → Int
  | 0 => 0
  | k + 1 => match rs[k]? with | some r => r.pts | none => 0
theorem begun_on {rs : List St} (hs : schB rs = true) {d : Int} {k : Nat} (hk : k ≤ rs.length) (hlo : ∀ (i : Nat) (r : St), i < k → rs[i]? = some r → r.day ≤ d) (hhi : ∀ r : St, rs[k]? = some r → d < r.day) : onL rs d = begun rs k := by
  have hall : ∀ (i : Nat) (r : St), k ≤ i → rs[i]? = some r → d < r.day := by
    intro i r hi hr
    rcases Nat.lt_or_ge k i with h | h
    · have hk2 : k < rs.length := by have := (List.getElem?_eq_some_iff.1 hr).1; omega
      have hq : rs[k]? = some rs[k] := List.getElem?_eq_getElem hk2
      exact Int.lt_trans (hhi _ hq) (sch_before hs h hq hr)
    · obtain rfl : i = k := by omega
      exact hhi r hr
  cases k with
  | zero => exact onL_zero fun i r hr => hall i r (by omega) hr
  | succ k =>
    have hq : rs[k]? = some rs[k] := List.getElem?_eq_getElem (by omega)
    unfold begun
    simp only [hq]
    exact onL_at hq (hlo k _ (by omega) hq) fun i r hi hr => hall i r (by omega) hr

set_option maxRecDepth 100000 in
set_option maxHeartbeats 4000000 in
theorem days1_in (n : Nat) (hn : 1 ≤ n) (l Bl Bf Bt n₀ X b off cap : Nat) (rs : List St) (f t : Int) (hs : schB rs = true) (hcap : rs.length ≤ cap) (f0 : 0 ≤ f) (f1 : f ≤ 36525) (t1 : t ≤ 36525) (hb : b < n₀) (hbX : b ≠ X) (hBt : Bt < n₀) (hBX : Bt ≠ X)
    (J Jx : List Nat → World → Prop) (hJd : ∀ s W n, J s W → J s (W.drewN n))
    (hY : ∀ pre x W, J pre W → pre.length < (t - f).toNat → YieldAt Fence.wide (n - 1) Try.prog l #[.int .i64 (f + (x : Nat)), .int .i64 (onL rs (f + (x : Nat)))] W fun e W' =>
      (e = .returned (.bool true) ∧ J (pre ++ [x]) W' ∧ KeepX n₀ X W W') ∨ (e = .returned (.bool false) ∧ Jx (pre ++ [x]) W'))
    (W : World) (hBl : W.cell? ⟨Bl, 0, none⟩ = some (.slice (some ⟨b, off, none⟩) rs.length cap)) (hBf : W.cell? ⟨Bf, 0, none⟩ = some (.int .i64 f)) (hBt2 : W.cell? ⟨Bt, 0, none⟩ = some (.int .i64 t))
    (hc : ∀ j r, rs[j]? = some r → W.cell? ⟨b, off + j * 2, none⟩ = some (.int .i64 r.day) ∧ W.cell? ⟨b, off + j * 2 + 1, none⟩ = some (.int .i64 r.pts)) (h0 : J [] W) :
    CallsIn Fence.wide n Try.prog 74 #[.func (.yield l) #[] #[], .pointer (some ⟨Bl, 0, none⟩), .pointer (some ⟨Bf, 0, none⟩), .pointer (some ⟨Bt, 0, none⟩)] W fun e W' => (∃ v, e = .returned v) ∧
      ((∃ ys, ys = List.range (t - f).toNat ∧ J ys W') ∨ (∃ pre, (∃ k, k < (t - f).toNat ∧ pre = List.range (k + 1)) ∧ Jx pre W')) := by
  have hlen := (sch_iff.1 hs).2
  refine callsIn_of_wp Try.func74 rfl trivial ?_ rfl
  simp only [Try.ntmps74, List.size_toArray, List.length_cons, List.length_nil, Nat.reduceAdd, Nat.reduceSub, Array.replicate_succ, Array.replicate_zero, List.push_toArray, List.append_toArray, List.nil_append, List.cons_append]
  gi_wp2
  gi_loopw [5, 6, 7] (fun a p d wr => ∃ j k : Nat, (j : Int) ≤ max 0 (t - f) ∧ k ≤ rs.length ∧ d = .int .i64 (f + j) ∧ Ahead b off rs.length cap k a ∧ p = .int .i64 (begun rs k) ∧ Hid (∀ (i : Nat) (r : St), i < k → rs[i]? = some r → r.day ≤ f + j) ∧ J (List.range j) wr ∧ KeepX n₀ X W wr)
    (fun a p d wr => (t - intOf d).toNat)
  case atStart => exact ⟨0, 0, by omega, Nat.zero_le _, by simp, .inl ⟨by omega, by simp⟩, rfl, Lib.hid (fun i r hi => by omega), h0, KeepX.refl _ _ _⟩
  case round =>
    obtain ⟨j, k, hj, hk, rfl, ha, rfl, hlo, hJs, hkx⟩ := hrel
    have hbt := hkx.cell hBt hBX hBt2
    by_cases hlt : f + j < t
    · obtain ⟨wz, hwz⟩ : ∃ x, x = wr := ⟨_, rfl⟩
      subst hwz
      gi_wp2
      gi_loopw [5, 6] (fun a p wr => ∃ k : Nat, k ≤ rs.length ∧ Ahead b off rs.length cap k a ∧ p = .int .i64 (begun rs k) ∧ Hid (∀ (i : Nat) (r : St), i < k → rs[i]? = some r → r.day ≤ f + j) ∧ J (List.range j) wr ∧ KeepX n₀ X W wr) (fun a p wr => lenV a)
      case atStart => exact ⟨k, hk, ha, rfl, hlo, hJs, hkx⟩
      case round =>
        clear hJs hkx ha hlo hbt
        obtain ⟨k, hk, ha, rfl, hlo, hJs, hkx2⟩ := hrel
        have hlv := ha.len hk
        rcases ha with ⟨hkl, rfl⟩ | ⟨rfl, x, c, rfl⟩
        · have hr : rs[k]? = some rs[k] := List.getElem?_eq_getElem hkl
          have hcs := hc k _ hr
          generalize rs[k] = r at hr hcs
          have c0 := hkx2.cell hb hbX hcs.1
          have c1 := hkx2.cell hb hbX hcs.2
          have hl1 : decide (0 < ((rs.length - k : Nat) : Int)) = true := by simp; omega
          by_cases hd : r.day ≤ f + j
          · have HB : Hid (begun rs (k + 1) = r.pts) := Lib.hid (by unfold begun; simp only [hr])
            have HL : Hid (∀ (i : Nat) (q : St), i < k + 1 → rs[i]? = some q → q.day ≤ f + j) := Lib.hid (fun i q hi hq => by
              rcases Nat.lt_or_ge i k with h | h
              · exact hlo.out i q h hq
              · obtain rfl : i = k := by omega
                rw [hr] at hq; cases hq; exact hd)
            rcases (show cap - k = 1 ∨ (cap - k ≠ 1 ∧ 1 < cap - k) by omega) with hck | ⟨hck, hck2⟩
            · have hlen1 : rs.length - k = 1 := by omega
              have hA : Ahead b off rs.length cap (k + 1) (.slice (some ⟨b, off + k * 2, none⟩) 0 0) := .inr ⟨by omega, _, _, rfl⟩
              have hJ2 := hJs
              have hkx3 := hkx2
              gi_wp2
              gi_quiet (fail)
              gi_wp2
              exact ⟨⟨k + 1, by omega, hA, by rw [HB.out], HL, hJd _ _ _ hJ2, hkx3.trans (KeepX.of_below (below_drewN _ _))⟩, by simp [lenV]; omega⟩
            · have hA : Ahead b off rs.length cap (k + 1) (.slice (some ⟨b, off + k * 2 + 2, none⟩) (rs.length - k - 1) (cap - k - 1)) := by
                rcases Nat.lt_or_ge (k + 1) rs.length with h | h
                · exact .inl ⟨h, by rw [show off + (k + 1) * 2 = off + k * 2 + 2 by omega, show rs.length - (k + 1) = rs.length - k - 1 by omega, show cap - (k + 1) = cap - k - 1 by omega]⟩
                · exact .inr ⟨by omega, _, _, by rw [show rs.length - k - 1 = 0 by omega]⟩
              have hJ2 := hJs
              have hkx3 := hkx2
              gi_wp2
              gi_quiet (fail)
              gi_wp2
              exact ⟨⟨k + 1, by omega, hA, by rw [HB.out], HL, hJd _ _ _ hJ2, hkx3.trans (KeepX.of_below (below_drewN _ _))⟩, by simp [lenV]; omega⟩
          · have hd' : f + j < r.day := by omega
            have E : onL rs (f + j) = begun rs k := begun_on hs hk hlo.out (fun q hq => by rw [hr] at hq; cases hq; exact hd')
            have HD := Lib.hid (@List.range_succ j)
            have hbt := hkx2.cell hBt hBX hBt2
            obtain ⟨fn, tmps, assign, body, hy, hR⟩ := hY _ j _ hJs (by rw [List.length_range]; omega)
            have ha : Ahead b off rs.length cap k (.slice (some ⟨b, off + k * 2, none⟩) (rs.length - k) (cap - k)) := .inl ⟨hkl, rfl⟩
            rw [E] at hy
            clear hd E
            gi_wp2
            refine hR.mono ?_
            rintro e W3 (⟨rfl, hJ3, hk3⟩ | ⟨rfl, hJx3⟩)
            · have hkx3 := hkx2.trans hk3
              have hlo3 : Hid (∀ (i : Nat) (r : St), i < k → rs[i]? = some r → r.day ≤ f + (j + 1 : Nat)) := Lib.hid (fun i r hi hr => by have := hlo.out i r hi hr; omega)
              gi_wp2
              go_roundw
              case rel => exact ⟨j + 1, k, by omega, hk, by go_num, ha, rfl, hlo3, HD.out ▸ hJ3, hkx3⟩
              case measure => simp [intOf]; omega
            · gi_wp2
              refine bodyPost_ret (results_none rfl _ _ _) rfl ?_
              exact ⟨⟨_, rfl⟩, .inr ⟨_, ⟨j, by omega, rfl⟩, HD.out ▸ hJx3⟩⟩
        · have hlv0 : decide (0 < ((0 : Nat) : Int)) = false := rfl
          have E : onL rs (f + j) = begun rs rs.length := begun_on hs hk hlo.out (fun q hq => by simp at hq)
          have HD := Lib.hid (@List.range_succ j)
          have hbt := hkx2.cell hBt hBX hBt2
          obtain ⟨fn, tmps, assign, body, hy, hR⟩ := hY _ j _ hJs (by rw [List.length_range]; omega)
          have ha : Ahead b off rs.length cap rs.length (.slice x 0 c) := .inr ⟨rfl, _, _, rfl⟩
          rw [E] at hy
          clear E
          gi_wp2
          refine hR.mono ?_
          rintro e W3 (⟨rfl, hJ3, hk3⟩ | ⟨rfl, hJx3⟩)
          · have hkx3 := hkx2.trans hk3
            have hlo3 : Hid (∀ (i : Nat) (r : St), i < rs.length → rs[i]? = some r → r.day ≤ f + (j + 1 : Nat)) := Lib.hid (fun i r hi hr => by have := hlo.out i r hi hr; omega)
            gi_wp2
            go_roundw
            case rel => exact ⟨j + 1, rs.length, by omega, hk, by go_num, ha, rfl, hlo3, HD.out ▸ hJ3, hkx3⟩
            case measure => simp [intOf]; omega
          · gi_wp2
            refine bodyPost_ret (results_none rfl _ _ _) rfl ?_
            exact ⟨⟨_, rfl⟩, .inr ⟨_, ⟨j, by omega, rfl⟩, HD.out ▸ hJx3⟩⟩
    · have hle : t ≤ f + j := by omega
      have hjt : j = (t - f).toNat := by omega
      subst hjt
      gi_wp2
      go_end0
      exact ⟨⟨_, rfl⟩, .inl hJs⟩

theorem daysOf_in (n : Nat) (A : Option Addr) (len c : Nat) (f t : Int) (w : World) :
    CallsIn Fence.wide n Try.prog 61 #[.slice A len c, .int .i64 f, .int .i64 t] w fun e w' =>
      e = .returned (.func (.func 74) #[] #[.pointer (some ⟨w.heap.size, 0, none⟩), .pointer (some ⟨w.heap.size + 1, 0, none⟩), .pointer (some ⟨w.heap.size + 2, 0, none⟩)]) ∧
      w' = ((w.alloc (.cells #[.slice A len c] 24)).alloc (.cells #[.int .i64 f] 2)).alloc (.cells #[.int .i64 t] 2) := by
  refine callsIn_of_wp Try.func61 rfl trivial ?_ rfl
  simp only [Try.ntmps61, List.size_toArray, List.length_cons, List.length_nil, Nat.reduceAdd, Nat.reduceSub, Array.replicate_succ, Array.replicate_zero, List.push_toArray, List.append_toArray, List.nil_append, List.cons_append]
  gi_wp2
  go_ret
  exact ⟨rfl, rfl⟩

/-- What a round may not touch: the call's own boxes and the row. -/
theorem days_stops (n : Nat) (hn : 1 ≤ n) (B₀ n₀ X b off cap : Nat) (rs : List St) (f t : Int) (hs : schB rs = true) (hcap : rs.length ≤ cap) (f0 : 0 ≤ f) (f1 : f ≤ 36525) (t1 : t ≤ 36525) (hb : b < n₀) (hbX : b ≠ X) (hBt : B₀ + 2 < n₀) (hBX : B₀ + 2 ≠ X)
    (w : World) (hw : B₀ + 2 < w.heap.size) (hBl : w.cell? ⟨B₀, 0, none⟩ = some (.slice (some ⟨b, off, none⟩) rs.length cap)) (hBf : w.cell? ⟨B₀ + 1, 0, none⟩ = some (.int .i64 f)) (hBt2 : w.cell? ⟨B₀ + 2, 0, none⟩ = some (.int .i64 t)) (hbw : b < w.heap.size)
    (hc : ∀ j r, rs[j]? = some r → w.cell? ⟨b, off + j * 2, none⟩ = some (.int .i64 r.day) ∧ w.cell? ⟨b, off + j * 2 + 1, none⟩ = some (.int .i64 r.pts)) :
    SeqStopsK Fence.wide n Try.prog 74 #[.pointer (some ⟨B₀, 0, none⟩), .pointer (some ⟨B₀ + 1, 0, none⟩), .pointer (some ⟨B₀ + 2, 0, none⟩)]
      (fun j : Nat => #[Value.int .i64 (f + (j : Nat)), Value.int .i64 (onL rs (f + (j : Nat)))]) (KeepX n₀ X) (fun ys => ys = List.range (t - f).toNat) (fun pre => ∃ k, k < (t - f).toNat ∧ pre = List.range (k + 1)) (t - f).toNat w := fun l J Jx W hW hJ _ hY h0 => by
  have g := fun (k : Nat) (v : Value) (hk : k < w.heap.size) (h : w.cell? ⟨k, 0, none⟩ = some v) => (hW.cell (p := ⟨k, 0, none⟩) hk).trans h
  exact days1_in n hn l B₀ (B₀ + 1) (B₀ + 2) n₀ X b off cap rs f t hs hcap f0 f1 t1 hb hbX hBt hBX J Jx
    (fun s W1 m hs => hJ s W1 _ none hs ⟨rfl, rfl, rfl, Nat.le_refl _, fun _ _ _ => rfl⟩ (fun r e => by cases e)) hY W (g _ _ (by omega) hBl) (g _ _ (by omega) hBf) (g _ _ hw hBt2)
    (fun j r hr => ⟨(hW.cell (p := ⟨b, off + j * 2, none⟩) hbw).trans (hc j r hr).1, (hW.cell (p := ⟨b, off + j * 2 + 1, none⟩) hbw).trans (hc j r hr).2⟩) h0
end Go.Proofs.Ythiegfcgbfhmmaa
