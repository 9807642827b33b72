/- Rows of strings: laws.eqStringS, markStringS, heldStringS. -/
import Derived.Test.YtpdkgjmppknbpaaMark
import Derived.Sort.OwnSorted
namespace Go.Proofs.Ytpdkgjmppknbpaa
open Go.ChangeShapes Go.WideShapes Go.ChangeAt Go.RowKit
set_option linter.unusedVariables false

theorem strInfo : (Try.prog.info? 9).map (fun i => (i.zero, i.size, i.bytes)) = some (some (.string ⟨#[]⟩), 1, 16) := by kernel_rfl
def Sr (w : World) (A : Option Addr) (ws : List (List UInt8)) : Prop := Rw w A (ws.map encStr)
def Ost (w : World) (base : Nat) (A : Option Addr) (n c : Nat) (ws : List (List UInt8)) : Prop := w.ownsRow base 9 1 (.slice A n c) n (ws.map encStr)
theorem Sr.at {w : World} {A : Option Addr} {ws : List (List UInt8)} (h : Sr w A ws) {k : Nat} (hk : k < ws.length) :
    ∃ b off s, A = some ⟨b, off, none⟩ ∧ b < w.heap.size ∧ w.cell? ⟨b, off + k, none⟩ = some (.string ⟨s.toArray⟩) ∧ Hid (ws[k]? = some s) := by
  obtain ⟨b, off, e, hl, hc⟩ := h (by simp; omega)
  exact ⟨b, off, ws[k], e, hl, hc k _ (by simp [hk, encStr]), Lib.hid (by simp [hk])⟩
section
variable {w w' : World} {base : Nat} {A : Option Addr} {n c : Nat} {ws : List (List UInt8)}
theorem Sr.below (h : Sr w A ws) (hb : Below w.heap.size w w') : Sr w' A ws := Rw.below h hb
theorem Sr.keepB {B : Nat} (h : Sr w A ws) (hA : Bd A B) (hb : Below B w w') : Sr w' A ws := Rw.keepB h hA hb
theorem Ost.len (h : Ost w base A n c ws) : ws.length = n := by have := h.1; simpa using this
theorem Ost.sr (h : Ost w base A n c ws) : Sr w A ws := Rw.ownS h
theorem Ost.bd (h : Ost w base A n c ws) : Bd A w.heap.size := fun a e => (h.lt a.block (by rw [e]; rfl)).2
theorem Ost.lo (h : Ost w base A n c ws) : ∀ k, (Value.slice A n c).ownBlock = some k → base ≤ k := fun k e => (h.lt k e).1
theorem Ost.below (h : Ost w base A n c ws) (hb : Below w.heap.size w w') : Ost w' base A n c ws := own_below h hb
theorem Ost.kept {B : Option Addr} {m d : Nat} (h : Ost w base A n c ws) (hg : w.grownBy w' (Value.slice B m d).ownBlock) (hB : Bd B base) : Ost w' base A n c ws :=
  World.ownsRow.kept h hg (by
    cases A with
    | none => exact .inl rfl
    | some a =>
      right
      cases B with
      | none => simp [Value.ownBlock]
      | some b =>
        intro e
        have h1 := h.lo a.block rfl
        have h2 := hB b rfl
        simp [Value.ownBlock] at e
        omega)
theorem Ost.far {B : Nat} (h : Ost w base A n c ws) (hg : w.grownBy w' (Value.slice A n c).ownBlock) (hB : B ≤ base) (hs : B ≤ w.heap.size) : Below B w w' :=
  (Below.refl _ _).grown hg hs (fun k e => Nat.le_trans hB (h.lo k e))
theorem Ost.wrote {W : World} {B : Nat} (hW : Below B W w) (h : Ost w base A n c ws) (hg : w.grownBy w' (Value.slice A n c).ownBlock) (hB : B ≤ base) (hs : B ≤ w.heap.size) : Below B W w' :=
  hW.grown hg hs (fun k e => Nat.le_trans hB (h.lo k e))
end
theorem Ost.nil (w : World) (base : Nat) : Ost w base none 0 0 [] := World.ownsRow_nil _ _ _ _
/-- The first m of a row. -/
theorem own_take {w : World} {base : Nat} {e : TypeId} {A : Option Addr} {n c m : Nat} {xs : List Value} (h : w.ownsRow base e 1 (.slice A n c) n xs) (hm : m ≤ n) : w.ownsRow base e 1 (.slice A m c) m (xs.take m) := by
  refine ⟨by have := h.1; rw [List.length_take]; omega, ?_⟩
  rcases h.2 with ⟨h1, h2⟩ | ⟨g, cap, cur, h1, h2, h3, h4, h5, h6, h7⟩
  · injection h1 with h1 _ h8
    subst h1 h8
    exact .inl ⟨by rw [show m = 0 by omega], by omega⟩
  · injection h1 with h1 _ h8
    subst h1 h8
    exact .inr ⟨g, c, cur, rfl, h2, h3, by omega, h5, h6, by rw [← h7, List.take_take]; congr 1; omega⟩
/-- What a function that hands back new strings with a code leaves. -/
def NewStrsC (w : World) (r : List (List UInt8) × Int) (e : Ending) (w' : World) : Prop :=
  ∃ A c, e = .returned (.tuple #[.slice A r.1.length c, .int .i64 r.2]) ∧ Ost w' w.heap.size A r.1.length c r.1 ∧ Below w.heap.size w w'

set_option maxHeartbeats 1000000 in
theorem eqStringS_l (A B : Option Addr) (n m c d : Nat) (ws : List (List UInt8)) (w : World) (hx : Sr w A ws) (hy : Sr w B ws) (hn : ws.length = n) (hm : ws.length = m) (hb : n ≤ 1000000000) :
    Calls Try.prog 35 #[.slice A n c, .slice B m d] w (Gives w (.bool true)) := by
  subst hn hm
  go_enter Try.func35, Try.ntmps35
  go_wp2_with fail
  go_loopw [5] (fun i wr => ∃ k : Nat, k ≤ ws.length ∧ i = .int .i64 k ∧ Below w.heap.size w wr) (fun i _ => ws.length - (intOf i).toNat)
  case atStart => exact ⟨0, Nat.zero_le _, rfl, Below.refl _ _⟩
  case round =>
    obtain ⟨k, hk, rfl, hb2⟩ := hrel
    by_cases hlt : k < ws.length
    · obtain ⟨b, off, s, rfl, _, h1, hs⟩ := (hx.below hb2).at hlt
      obtain ⟨b', off', s', rfl, _, h2, hs'⟩ := (hy.below hb2).at hlt
      obtain rfl : s = s' := by have h1 := hs.out; have h2 := hs'.out; rw [h1] at h2; exact Option.some.inj h2
      clear hx hy hs hs'
      go_wp2_with fail
      go_quiet (fail)
      go_wp2_with fail
      go_roundw
      case rel => exact ⟨k + 1, by omega, by go_num, belowGo hb2 (below_drewN _ _)⟩
      case measure => simp [intOf]; omega
    · clear hx hy
      go_wp2_with fail
      go_ret
      exact ⟨rfl, hb2⟩
def marksS (k : Nat) (n : Nat) : List (List UInt8) := (List.range n).map fun j => mkT (k + j)
theorem marksS_len (k : Nat) (n : Nat) : (marksS k n).length = n := by simp [marksS]
theorem marksS_at {k : Nat} {n j : Nat} (h : j < n) : (marksS k n)[j]? = some (mkT (k + j)) := by simp [marksS, h]
theorem marksS_succ (k : Nat) (n : Nat) : marksS k (n + 1) = marksS k n ++ [mkT (k + n)] := by simp [marksS, List.range_succ]
def MarkedS (w : World) (base : Nat) (A : Option Addr) (n c : Nat) (k : Nat) (e : Ending) (w' : World) : Prop :=
  e = .returned (.int .i64 ((k + n : Nat) : Int)) ∧ Ost w' base A n c (marksS k n) ∧ w.grownBy w' (Value.slice A n c).ownBlock
theorem set_take1 {ys : List Value} {k : Nat} {v : Value} (hk : k < ys.length) : (ys.set k v).take (k + 1) = ys.take k ++ [v] := by
  rw [List.take_add_one, List.take_set_of_le (Nat.le_refl k)]
  simp [hk]

set_option maxRecDepth 100000 in
set_option maxHeartbeats 1000000 in
theorem markStringS_l (A : Option Addr) (n c : Nat) (k0 : Nat) (ws : List (List UInt8)) (base : Nat) (w : World) (hx : Ost w base A n c ws) (hn : n ≤ 1048576) (h0 : 0 < k0) (h1 : k0 ≤ 1000000000) :
    Calls Try.prog 38 #[.slice A n c, .int .i64 k0] w (MarkedS w base A n c k0) := by
  by_cases hz : n = 0
  · have HO : Hid (Ost w base A n c (marksS k0 n)) := Lib.hid (by
      have h := hx.len; subst hz
      have : ws = [] := List.eq_nil_of_length_eq_zero h
      subst this; exact hx)
    subst hz
    go_enter Try.func38, Try.ntmps38
    go_wp2_with fail
    go_loop [1, 5] (fun k i => k = .int .i64 k0 ∧ i = .int .i64 0) (fun _ _ => 0)
    case atStart => exact ⟨rfl, rfl⟩
    case round =>
      obtain ⟨rfl, rfl⟩ := hrel
      go_wp2_with fail
      go_ret
      exact ⟨by simp, HO.out, World.grownBy.refl w _⟩
  · obtain ⟨g, hA⟩ : ∃ g, A = some ⟨g, 0, none⟩ := by
      rcases hx.2 with ⟨_, h⟩ | ⟨g, _, _, h, _⟩
      · exact absurd h hz
      · injection h with h; exact ⟨g, h⟩
    subst hA
    go_enter Try.func38, Try.ntmps38
    go_wp2_with fail
    go_loopw [1, 5] (fun k i wr => ∃ (j : Nat) (ys : List Value), j ≤ n ∧ i = .int .i64 j ∧ k = .int .i64 ((k0 + j : Nat) : Int) ∧ wr.ownsRow base 9 1 (.slice (some ⟨g, 0, none⟩) n c) n ys ∧
      Hid (ys.take j = (marksS k0 j).map encStr) ∧ w.grownBy wr (some g)) (fun _ i _ => n - (intOf i).toNat)
    case atStart => exact ⟨0, _, Nat.zero_le _, rfl, by simp, hx, Lib.hid (by simp [marksS]), World.grownBy.refl w _⟩
    case round =>
      obtain ⟨j, ys, hj, rfl, rfl, hown, ht, hg⟩ := hrel
      clear hx
      by_cases hlt : j < n
      · have HO := Lib.hid hown
        have hyl : j < ys.length := by have := hown.1; omega
        have HM := Lib.hid (markText_l (k0 + j) wr (by omega) (by omega))
        have HT : Hid ((ys.set j (.string ⟨(mkT (k0 + j)).toArray⟩)).take (j + 1) = (marksS k0 (j + 1)).map encStr) := Lib.hid (by
          rw [set_take1 hyl, ht.out, marksS_succ, List.map_append]; rfl)
        obtain ⟨K, hK⟩ : ∃ K, K = k0 + j := ⟨_, rfl⟩
        rw [← hK] at HM HT ⊢
        have HK : Hid (k0 + (j + 1) = K + 1) := Lib.hid (by omega)
        have hKb : K ≤ 1010000000 := by omega
        clear ht hown hK
        go_wp2_with fail
        refine HM.out.mono ?_
        rintro e w1 ⟨rfl, b1⟩
        have hown := own_below HO.out b1
        clear HO HM
        have hg2 := grown_below' hg (b1.mono hg.size)
        obtain ⟨o0, k0'⟩ := own_at hown j (by omega)
        have f0 := hown.frozenAt j
        have HS := Lib.hid (hown.stored j (.string ⟨(mkT K).toArray⟩))
        clear hown
        go_wp2_with fail
        go_roundw
        case rel => exact ⟨j + 1, _, by omega, by go_num, by rw [HK.out]; go_num, HS.out.1, HT, hg2.trans HS.out.2⟩
        case measure => simp [intOf]; omega
      · obtain rfl : j = n := by omega
        have HT : Hid (ys = (marksS k0 j).map encStr) := Lib.hid (by
          have h1 := ht.out; have h2 := hown.1
          rwa [List.take_of_length_le (by omega)] at h1)
        clear ht
        go_wp2_with fail
        go_ret
        exact ⟨rfl, by have := HT.out; subst this; exact hown, hg⟩

set_option maxRecDepth 100000 in
set_option maxHeartbeats 1000000 in
theorem heldStringS_l (A : Option Addr) (n c : Nat) (k0 : Nat) (w : World) (hx : Sr w A (marksS k0 n)) (hn : n ≤ 1048576) (h0 : 0 < k0) (h1 : k0 ≤ 1000000000) :
    Calls Try.prog 39 #[.slice A n c, .int .i64 k0] w (Gives w (.int .i64 ((k0 + n : Nat) : Int))) := by
  go_enter Try.func39, Try.ntmps39
  go_wp2_with fail
  go_loopw [1, 5] (fun k i wr => ∃ j : Nat, j ≤ n ∧ i = .int .i64 j ∧ k = .int .i64 ((k0 + j : Nat) : Int) ∧ Below w.heap.size w wr) (fun _ i _ => n - (intOf i).toNat)
  case atStart => exact ⟨0, Nat.zero_le _, rfl, by simp, Below.refl _ _⟩
  case round =>
    obtain ⟨j, hj, rfl, rfl, hb⟩ := hrel
    by_cases hlt : j < n
    · obtain ⟨b, off, s, rfl, hl, h4, hs⟩ := (hx.below hb).at (k := j) (by rw [marksS_len]; exact hlt)
      obtain rfl : mkT (k0 + j) = s := by have := hs.out; rw [marksS_at hlt] at this; exact Option.some.inj this
      obtain ⟨K, hK⟩ : ∃ K, K = k0 + j := ⟨_, rfl⟩
      rw [← hK] at h4 ⊢
      have HK : Hid (k0 + (j + 1) = K + 1) := Lib.hid (by omega)
      have hKb : K ≤ 1010000000 := by omega
      have hK0 : 0 < K := by omega
      have HM := Lib.hid (fun y : Sub (Bel wr) => (markText_l K y.w hK0 (by omega)).mono fun e w' h => (⟨h.1, ⟨w', Bel.step y h.2⟩, rfl⟩ : e = .returned (.string ⟨(mkT K).toArray⟩) ∧ ∃ z : Sub (Bel wr), w' = z.w))
      have q0 : ∀ y : Sub (Bel wr), y.w.cell? ⟨b, off + j, none⟩ = some (.string ⟨(mkT K).toArray⟩) := fun y => (y.h.cell (p := ⟨b, off + j, none⟩) hl).trans h4
      have HB := Lib.hid (fun y : Sub (Bel wr) => (belowGo hb y.h : Below w.heap.size w y.w))
      clear hx hs hK h4
      go_wp2_with fail
      refine region_held (Bel wr) (by kernel_rfl) (by kernel_rfl) (Bel.drew wr) ?_
      repeat (go_big_quiet_step ((first | rfl | (go_at_call 71; exact HM.out _))))
      refine wpQuiet_nil ?_
      rintro _ ⟨y, rfl⟩
      clear HM q0
      go_wp2_with fail
      go_roundw
      case rel => exact ⟨j + 1, by omega, by go_num, by rw [HK.out]; go_num, HB.out y⟩
      case measure => simp [intOf]; omega
    · obtain rfl : j = n := by omega
      clear hx
      go_wp2_with fail
      go_ret
      exact ⟨rfl, hb⟩
end Go.Proofs.Ytpdkgjmppknbpaa
