import Derived.Test.YtjcklmhgjdmjoaaBase
import Derived.BigQuiet
import Derived.Test.YtjcklmhgjdmjoaaMRate
import Derived.Lib.ItoaNum
import Derived.Laws.IdiomStrings
import Derived.Sort.OwnSorted
/- A region that draws its order, with calls that make memory and guards: one walk in the order of the text, over a class of worlds. -/
namespace Go.Proofs.Ytjcklmhgjdmjoaa
open Go.ChangeShapes Go.WideShapes Go.ChangeAt Go.RowKit
set_option linter.unusedVariables false

/-- A world of which S holds. -/
structure Sub (S : World → Prop) where
  w : World
  h : S w
/-- A region that draws its order, each of whose operations yields one value in all worlds of S and leaves such a world. -/
theorem region_held {P : Program} {id : Nat} {Q : Exit → Act → World → Prop} {a : Act} {w : World} {l : List Oper} (S : World → Prop) (hm : P.follows .mixedOrders = true) (hB : Region.lexB .any l.toArray = true) (h0 : S w.drew)
    (h : wpQuiet P l.toArray (fun W => ∃ y : Sub S, W = y.w) (fun a' => ∀ w', (∃ y : Sub S, w' = y.w) → Q .normal a' w') l a) : (Code.region id l.toArray true).wp P Q a w :=
  wp_region_quiet (C := fun W => ∃ y : Sub S, W = y.w) hm hB ⟨⟨_, h0⟩, rfl⟩ (by rw [List.toList_toArray]; exact h)

/-- The class 'nothing below is written'. -/
def Bel (w : World) (W : World) : Prop := Below w.heap.size w W
theorem Bel.drew (w : World) : Bel w w.drew := (Below.refl _ _).drew
theorem Bel.step {w w' : World} (y : Sub (Bel w)) (b : Below y.w.heap.size y.w w') : Bel w w' := belowGo y.h b
end Go.Proofs.Ytjcklmhgjdmjoaa

/- laws.markText; markRateS, heldRateS. -/
namespace Go.Proofs.Ytjcklmhgjdmjoaa
open Go.ChangeShapes Go.WideShapes Go.ChangeAt Go.RowKit
set_option linter.unusedVariables false

theorem mconv_at (W : World) (a : Addr) (x : Int) (h : W.cell? a = some (.int .u8 x)) :
    (convert 22 9 (.slice (some a) 1 1)).run Try.prog W = .ok (.string ⟨#[UInt8.ofNat x.toNat]⟩) W := by
  rw [run_convert_bytes_string W 22 9 5 (some a) 1 1 Try.underlying22 Try.underlying5 Try.underlying9]
  have hl := run_loadCells_list (P := Try.prog) W a ([x].map (Value.int .u8)) (fun j v hj => by
    cases j with
    | zero => simp at hj; subst hj; simpa [Addr.add] using h
    | succ j => simp at hj)
  rw [run_bytesToString W a 1 1 [x] hl]
  rfl
theorem mconv_new (W : World) (x : Int) (t : TypeId) :
    (convert 22 9 (.slice (some ⟨W.heap.size, 0, none⟩) 1 1)).run Try.prog (W.alloc (.cells #[.int .u8 x] t)) = .ok (.string ⟨#[UInt8.ofNat x.toNat]⟩) (W.alloc (.cells #[.int .u8 x] t)) :=
  mconv_at _ _ x (by rw [cell_of_row _ _ _ _ _ _ (heap_alloc_new W _)]; rfl)
/-- What is still to be written of a number, ahead of what is written. -/
def mk0 (k : Nat) (l : List UInt8) : List UInt8 := if k = 0 then l else Lib.decDigits k ++ l
/-- The text of a mark. -/
def mkT (k : Nat) : List UInt8 := 109 :: Lib.decDigits k
theorem mk0_step {k : Nat} (hk : 0 < k) (l : List UInt8) : mk0 (k / 10) (UInt8.ofNat (48 + k % 10) :: l) = mk0 k l := by
  unfold mk0
  rw [if_neg (by omega : ¬ k = 0)]
  by_cases h : k < 10
  · rw [if_pos (by omega), Lib.decDigits_one h, Nat.mod_eq_of_lt h]; rfl
  · rw [if_neg (by omega)]
    conv => rhs; rw [Lib.decDigits, dif_neg h]
    simp
theorem mdec_len (k : Nat) : ∀ n, n < 10 ^ k → (Lib.decDigits n).length ≤ k + 1 := by
  induction k with
  | zero => intro n h; rw [Lib.decDigits_one (by simp at h; omega)]; simp
  | succ k ih =>
    intro n h
    by_cases hn : n < 10
    · rw [Lib.decDigits_one hn]; simp
    · have e : Lib.decDigits n = Lib.decDigits (n / 10) ++ [UInt8.ofNat (48 + n % 10)] := by
        conv => lhs; rw [Lib.decDigits, dif_neg hn]
      rw [e]
      have := ih (n / 10) (by rw [Nat.pow_succ] at h; omega)
      simp; omega
theorem mk0_len {k : Nat} {l m : List UInt8} (h : mk0 k l = m) : l.length ≤ m.length := by
  subst h; unfold mk0; split
  · exact Nat.le_refl _
  · rw [List.length_append]; omega
theorem str1 (b : UInt8) (l : List UInt8) : (⟨#[b]⟩ ++ ⟨l.toArray⟩ : ByteArray) = ⟨(b :: l).toArray⟩ := by
  apply ByteArray.ext
  simp [ByteArray.data_append]

set_option maxHeartbeats 1000000 in
theorem markText_l (k : Nat) (w : World) (h0 : 0 < k) (h1 : k ≤ 1000000000000) : Calls Try.prog 101 #[.int .i64 k] w (Gives w (.string ⟨(mkT k).toArray⟩)) := by
  have E : Hid (mkT k = 109 :: mk0 k []) := Lib.hid (by unfold mkT mk0; rw [if_neg (by omega)]; simp)
  have hL : (mk0 k []).length ≤ 19 := by
    unfold mk0; rw [if_neg (by omega), List.append_nil]; exact mdec_len 18 k (by omega)
  obtain ⟨T, hT⟩ : ∃ T, mk0 k [] = T := ⟨_, rfl⟩
  rw [hT] at E hL
  have H0 := Lib.hid hT
  clear hT
  go_enter Try.func101, Try.ntmps101
  go_wp2_with fail
  go_loopw [0, 3] (fun k' o wr => ∃ (j : Nat) (l : List UInt8), j ≤ k ∧ k' = .int .i64 j ∧ o = .string ⟨l.toArray⟩ ∧ Hid (mk0 j l = T) ∧ Below w.heap.size w wr) (fun k' _ _ => (intOf k').toNat)
  case atStart => exact ⟨k, [], Nat.le_refl _, rfl, rfl, H0, Below.refl _ _⟩
  case round =>
    obtain ⟨j, l, hj, rfl, rfl, ht, hb⟩ := hrel
    have hll := mk0_len ht.out
    by_cases hj0 : 0 < j
    · have HT : Hid (mk0 (j / 10) (UInt8.ofNat (48 + j % 10) :: l) = T) := Lib.hid (by rw [mk0_step hj0, ht.out])
      have q1 : IntKind.i64.wrap ((j : Int) / 10) = (j : Int) / 10 := IntWalk.i64_in _ (by omega)
      have q2 : (j : Int).tmod 10 = (j : Int) % 10 := Int.tmod_eq_emod_of_nonneg (by omega)
      have q3 : IntKind.i64.wrap (48 + (j : Int) % 10) = 48 + (j : Int) % 10 := IntWalk.i64_in _ (by omega)
      have q4 : IntKind.u8.wrap (48 + (j : Int) % 10) = 48 + (j : Int) % 10 := IntWalk.u8_in _ (by omega)
      have hcv := fun W => mconv_new W (48 + (j : Int) % 10) 5
      have hnn : (48 + (j : Int) % 10).toNat = 48 + j % 10 := by omega
      have hs : Hid ((⟨#[48 + UInt8.ofNat (j % 10)]⟩ ++ ⟨l.toArray⟩ : ByteArray) = ⟨(UInt8.ofNat (48 + j % 10) :: l).toArray⟩) := Lib.hid (by rw [← str1, UInt8.ofNat_add]; rfl)
      clear ht
      go_wp2_with fail
      go_roundw
      case rel => exact ⟨j / 10, UInt8.ofNat (48 + j % 10) :: l, by omega, by go_num, congrArg Value.string hs.out, HT, hb.trans ((Below.refl _ _).alloc hb.size _)⟩
      case measure => simp [intOf]; omega
    · obtain rfl : j = 0 := by omega
      have HT : Hid (l = T) := Lib.hid (by have := ht.out; unfold mk0 at this; simpa using this)
      have hs := Lib.hid (str1 109 l)
      clear ht
      go_wp2_with fail
      go_ret
      exact ⟨by rw [E.out, ← HT.out, ← hs.out] <;> rfl, hb⟩

/-! ### rows of rates -/
def markR (k : Nat) : Rt := ⟨mkT k, (k : Int) + 1, (k : Int) + 2, (k : Int) + 3⟩
def marksR (k : Nat) (n : Nat) : List Rt := (List.range n).map fun j => markR (k + 4 * j)
theorem marksR_len (k : Nat) (n : Nat) : (marksR k n).length = n := by simp [marksR]
theorem marksR_at {k : Nat} {n j : Nat} (h : j < n) : (marksR k n)[j]? = some (markR (k + 4 * j)) := by simp [marksR, h]
theorem marksR_succ (k : Nat) (n : Nat) : marksR k (n + 1) = marksR k n ++ [markR (k + 4 * n)] := by simp [marksR, List.range_succ]
theorem grown_below' {w wr w' : World} {g : Option Nat} (h : w.grownBy wr g) (hb : Below w.heap.size wr w') : w.grownBy w' g :=
  ⟨hb.os.trans h.os, hb.tape.trans h.tape, hb.output.trans h.output, Nat.le_trans h.size hb.size, fun k hk hn => (hb.block k hk).trans (h.block k hk hn)⟩

end Go.Proofs.Ytjcklmhgjdmjoaa

/- Rows of strings: laws.eqStringS, markStringS, heldStringS. -/
namespace Go.Proofs.Ytjcklmhgjdmjoaa
open Go.ChangeShapes Go.WideShapes Go.ChangeAt Go.RowKit
set_option linter.unusedVariables false

theorem strInfo : (Try.prog.info? 9).map (fun i => (i.zero, i.size, i.bytes)) = some (some (.string ⟨#[]⟩), 1, 16) := by kernel_rfl
def Sr (w : World) (A : Option Addr) (ws : List (List UInt8)) : Prop := Rw w A (ws.map encStr)
def Ost (w : World) (base : Nat) (A : Option Addr) (n c : Nat) (ws : List (List UInt8)) : Prop := w.ownsRow base 9 1 (.slice A n c) n (ws.map encStr)
theorem Sr.at {w : World} {A : Option Addr} {ws : List (List UInt8)} (h : Sr w A ws) {k : Nat} (hk : k < ws.length) :
    ∃ b off s, A = some ⟨b, off, none⟩ ∧ b < w.heap.size ∧ w.cell? ⟨b, off + k, none⟩ = some (.string ⟨s.toArray⟩) ∧ Hid (ws[k]? = some s) := by
  obtain ⟨b, off, e, hl, hc⟩ := h (by simp; omega)
  exact ⟨b, off, ws[k], e, hl, hc k _ (by simp [hk, encStr]), Lib.hid (by simp [hk])⟩
section
variable {w w' : World} {base : Nat} {A : Option Addr} {n c : Nat} {ws : List (List UInt8)}
theorem Sr.below (h : Sr w A ws) (hb : Below w.heap.size w w') : Sr w' A ws := Rw.below h hb
theorem Sr.keepB {B : Nat} (h : Sr w A ws) (hA : Bd A B) (hb : Below B w w') : Sr w' A ws := Rw.keepB h hA hb
theorem Ost.len (h : Ost w base A n c ws) : ws.length = n := by have := h.1; simpa using this
theorem Ost.sr (h : Ost w base A n c ws) : Sr w A ws := Rw.ownS h
theorem Ost.bd (h : Ost w base A n c ws) : Bd A w.heap.size := fun a e => (h.lt a.block (by rw [e]; rfl)).2
theorem Ost.lo (h : Ost w base A n c ws) : ∀ k, (Value.slice A n c).ownBlock = some k → base ≤ k := fun k e => (h.lt k e).1
theorem Ost.below (h : Ost w base A n c ws) (hb : Below w.heap.size w w') : Ost w' base A n c ws := own_below h hb
theorem Ost.kept {B : Option Addr} {m d : Nat} (h : Ost w base A n c ws) (hg : w.grownBy w' (Value.slice B m d).ownBlock) (hB : Bd B base) : Ost w' base A n c ws :=
  World.ownsRow.kept h hg (by
    cases A with
    | none => exact .inl rfl
    | some a =>
      right
      cases B with
      | none => simp [Value.ownBlock]
      | some b =>
        intro e
        have h1 := h.lo a.block rfl
        have h2 := hB b rfl
        simp [Value.ownBlock] at e
        omega)
theorem Ost.far {B : Nat} (h : Ost w base A n c ws) (hg : w.grownBy w' (Value.slice A n c).ownBlock) (hB : B ≤ base) (hs : B ≤ w.heap.size) : Below B w w' :=
  (Below.refl _ _).grown hg hs (fun k e => Nat.le_trans hB (h.lo k e))
theorem Ost.wrote {W : World} {B : Nat} (hW : Below B W w) (h : Ost w base A n c ws) (hg : w.grownBy w' (Value.slice A n c).ownBlock) (hB : B ≤ base) (hs : B ≤ w.heap.size) : Below B W w' :=
  hW.grown hg hs (fun k e => Nat.le_trans hB (h.lo k e))
end
theorem Ost.nil (w : World) (base : Nat) : Ost w base none 0 0 [] := World.ownsRow_nil _ _ _ _
/-- The first m of a row. -/
theorem own_take {w : World} {base : Nat} {e : TypeId} {A : Option Addr} {n c m : Nat} {xs : List Value} (h : w.ownsRow base e 1 (.slice A n c) n xs) (hm : m ≤ n) : w.ownsRow base e 1 (.slice A m c) m (xs.take m) := by
  refine ⟨by have := h.1; rw [List.length_take]; omega, ?_⟩
  rcases h.2 with ⟨h1, h2⟩ | ⟨g, cap, cur, h1, h2, h3, h4, h5, h6, h7⟩
  · injection h1 with h1 _ h8
    subst h1 h8
    exact .inl ⟨by rw [show m = 0 by omega], by omega⟩
  · injection h1 with h1 _ h8
    subst h1 h8
    exact .inr ⟨g, c, cur, rfl, h2, h3, by omega, h5, h6, by rw [← h7, List.take_take]; congr 1; omega⟩
/-- What a function that hands back new strings with a code leaves. -/
def NewStrsC (w : World) (r : List (List UInt8) × Int) (e : Ending) (w' : World) : Prop :=
  ∃ A c, e = .returned (.tuple #[.slice A r.1.length c, .int .i64 r.2]) ∧ Ost w' w.heap.size A r.1.length c r.1 ∧ Below w.heap.size w w'

set_option maxHeartbeats 1000000 in
theorem eqStringS_l (A B : Option Addr) (n m c d : Nat) (ws : List (List UInt8)) (w : World) (hx : Sr w A ws) (hy : Sr w B ws) (hn : ws.length = n) (hm : ws.length = m) (hb : n ≤ 1000000000) :
    Calls Try.prog 41 #[.slice A n c, .slice B m d] w (Gives w (.bool true)) := by
  subst hn hm
  go_enter Try.func41, Try.ntmps41
  go_wp2_with fail
  go_loopw [5] (fun i wr => ∃ k : Nat, k ≤ ws.length ∧ i = .int .i64 k ∧ Below w.heap.size w wr) (fun i _ => ws.length - (intOf i).toNat)
  case atStart => exact ⟨0, Nat.zero_le _, rfl, Below.refl _ _⟩
  case round =>
    obtain ⟨k, hk, rfl, hb2⟩ := hrel
    by_cases hlt : k < ws.length
    · obtain ⟨b, off, s, rfl, _, h1, hs⟩ := (hx.below hb2).at hlt
      obtain ⟨b', off', s', rfl, _, h2, hs'⟩ := (hy.below hb2).at hlt
      obtain rfl : s = s' := by have h1 := hs.out; have h2 := hs'.out; rw [h1] at h2; exact Option.some.inj h2
      clear hx hy hs hs'
      go_wp2_with fail
      go_quiet (fail)
      go_wp2_with fail
      go_roundw
      case rel => exact ⟨k + 1, by omega, by go_num, belowGo hb2 (below_drewN _ _)⟩
      case measure => simp [intOf]; omega
    · clear hx hy
      go_wp2_with fail
      go_ret
      exact ⟨rfl, hb2⟩
def marksS (k : Nat) (n : Nat) : List (List UInt8) := (List.range n).map fun j => mkT (k + j)
theorem marksS_len (k : Nat) (n : Nat) : (marksS k n).length = n := by simp [marksS]
theorem marksS_at {k : Nat} {n j : Nat} (h : j < n) : (marksS k n)[j]? = some (mkT (k + j)) := by simp [marksS, h]
theorem marksS_succ (k : Nat) (n : Nat) : marksS k (n + 1) = marksS k n ++ [mkT (k + n)] := by simp [marksS, List.range_succ]
def MarkedS (w : World) (base : Nat) (A : Option Addr) (n c : Nat) (k : Nat) (e : Ending) (w' : World) : Prop :=
  e = .returned (.int .i64 ((k + n : Nat) : Int)) ∧ Ost w' base A n c (marksS k n) ∧ w.grownBy w' (Value.slice A n c).ownBlock
theorem set_take1 {ys : List Value} {k : Nat} {v : Value} (hk : k < ys.length) : (ys.set k v).take (k + 1) = ys.take k ++ [v] := by
  rw [List.take_add_one, List.take_set_of_le (Nat.le_refl k)]
  simp [hk]

set_option maxRecDepth 100000 in
set_option maxHeartbeats 1000000 in
theorem markStringS_l (A : Option Addr) (n c : Nat) (k0 : Nat) (ws : List (List UInt8)) (base : Nat) (w : World) (hx : Ost w base A n c ws) (hn : n ≤ 1048576) (h0 : 0 < k0) (h1 : k0 ≤ 1000000000) :
    Calls Try.prog 43 #[.slice A n c, .int .i64 k0] w (MarkedS w base A n c k0) := by
  by_cases hz : n = 0
  · have HO : Hid (Ost w base A n c (marksS k0 n)) := Lib.hid (by
      have h := hx.len; subst hz
      have : ws = [] := List.eq_nil_of_length_eq_zero h
      subst this; exact hx)
    subst hz
    go_enter Try.func43, Try.ntmps43
    go_wp2_with fail
    go_loop [1, 5] (fun k i => k = .int .i64 k0 ∧ i = .int .i64 0) (fun _ _ => 0)
    case atStart => exact ⟨rfl, rfl⟩
    case round =>
      obtain ⟨rfl, rfl⟩ := hrel
      go_wp2_with fail
      go_ret
      exact ⟨by simp, HO.out, World.grownBy.refl w _⟩
  · obtain ⟨g, hA⟩ : ∃ g, A = some ⟨g, 0, none⟩ := by
      rcases hx.2 with ⟨_, h⟩ | ⟨g, _, _, h, _⟩
      · exact absurd h hz
      · injection h with h; exact ⟨g, h⟩
    subst hA
    go_enter Try.func43, Try.ntmps43
    go_wp2_with fail
    go_loopw [1, 5] (fun k i wr => ∃ (j : Nat) (ys : List Value), j ≤ n ∧ i = .int .i64 j ∧ k = .int .i64 ((k0 + j : Nat) : Int) ∧ wr.ownsRow base 9 1 (.slice (some ⟨g, 0, none⟩) n c) n ys ∧
      Hid (ys.take j = (marksS k0 j).map encStr) ∧ w.grownBy wr (some g)) (fun _ i _ => n - (intOf i).toNat)
    case atStart => exact ⟨0, _, Nat.zero_le _, rfl, by simp, hx, Lib.hid (by simp [marksS]), World.grownBy.refl w _⟩
    case round =>
      obtain ⟨j, ys, hj, rfl, rfl, hown, ht, hg⟩ := hrel
      clear hx
      by_cases hlt : j < n
      · have HO := Lib.hid hown
        have hyl : j < ys.length := by have := hown.1; omega
        have HM := Lib.hid (markText_l (k0 + j) wr (by omega) (by omega))
        have HT : Hid ((ys.set j (.string ⟨(mkT (k0 + j)).toArray⟩)).take (j + 1) = (marksS k0 (j + 1)).map encStr) := Lib.hid (by
          rw [set_take1 hyl, ht.out, marksS_succ, List.map_append]; rfl)
        obtain ⟨K, hK⟩ : ∃ K, K = k0 + j := ⟨_, rfl⟩
        rw [← hK] at HM HT ⊢
        have HK : Hid (k0 + (j + 1) = K + 1) := Lib.hid (by omega)
        have hKb : K ≤ 1010000000 := by omega
        clear ht hown hK
        go_wp2_with fail
        refine HM.out.mono ?_
        rintro e w1 ⟨rfl, b1⟩
        have hown := own_below HO.out b1
        clear HO HM
        have hg2 := grown_below' hg (b1.mono hg.size)
        obtain ⟨o0, k0'⟩ := own_at hown j (by omega)
        have f0 := hown.frozenAt j
        have HS := Lib.hid (hown.stored j (.string ⟨(mkT K).toArray⟩))
        clear hown
        go_wp2_with fail
        go_roundw
        case rel => exact ⟨j + 1, _, by omega, by go_num, by rw [HK.out]; go_num, HS.out.1, HT, hg2.trans HS.out.2⟩
        case measure => simp [intOf]; omega
      · obtain rfl : j = n := by omega
        have HT : Hid (ys = (marksS k0 j).map encStr) := Lib.hid (by
          have h1 := ht.out; have h2 := hown.1
          rwa [List.take_of_length_le (by omega)] at h1)
        clear ht
        go_wp2_with fail
        go_ret
        exact ⟨rfl, by have := HT.out; subst this; exact hown, hg⟩

set_option maxRecDepth 100000 in
set_option maxHeartbeats 1000000 in
theorem heldStringS_l (A : Option Addr) (n c : Nat) (k0 : Nat) (w : World) (hx : Sr w A (marksS k0 n)) (hn : n ≤ 1048576) (h0 : 0 < k0) (h1 : k0 ≤ 1000000000) :
    Calls Try.prog 44 #[.slice A n c, .int .i64 k0] w (Gives w (.int .i64 ((k0 + n : Nat) : Int))) := by
  go_enter Try.func44, Try.ntmps44
  go_wp2_with fail
  go_loopw [1, 5] (fun k i wr => ∃ j : Nat, j ≤ n ∧ i = .int .i64 j ∧ k = .int .i64 ((k0 + j : Nat) : Int) ∧ Below w.heap.size w wr) (fun _ i _ => n - (intOf i).toNat)
  case atStart => exact ⟨0, Nat.zero_le _, rfl, by simp, Below.refl _ _⟩
  case round =>
    obtain ⟨j, hj, rfl, rfl, hb⟩ := hrel
    by_cases hlt : j < n
    · obtain ⟨b, off, s, rfl, hl, h4, hs⟩ := (hx.below hb).at (k := j) (by rw [marksS_len]; exact hlt)
      obtain rfl : mkT (k0 + j) = s := by have := hs.out; rw [marksS_at hlt] at this; exact Option.some.inj this
      obtain ⟨K, hK⟩ : ∃ K, K = k0 + j := ⟨_, rfl⟩
      rw [← hK] at h4 ⊢
      have HK : Hid (k0 + (j + 1) = K + 1) := Lib.hid (by omega)
      have hKb : K ≤ 1010000000 := by omega
      have hK0 : 0 < K := by omega
      have HM := Lib.hid (fun y : Sub (Bel wr) => (markText_l K y.w hK0 (by omega)).mono fun e w' h => (⟨h.1, ⟨w', Bel.step y h.2⟩, rfl⟩ : e = .returned (.string ⟨(mkT K).toArray⟩) ∧ ∃ z : Sub (Bel wr), w' = z.w))
      have q0 : ∀ y : Sub (Bel wr), y.w.cell? ⟨b, off + j, none⟩ = some (.string ⟨(mkT K).toArray⟩) := fun y => (y.h.cell (p := ⟨b, off + j, none⟩) hl).trans h4
      have HB := Lib.hid (fun y : Sub (Bel wr) => (belowGo hb y.h : Below w.heap.size w y.w))
      clear hx hs hK h4
      go_wp2_with fail
      refine region_held (Bel wr) (by kernel_rfl) (by kernel_rfl) (Bel.drew wr) ?_
      repeat (go_big_quiet_step ((first | rfl | (go_at_call 101; exact HM.out _))))
      refine wpQuiet_nil ?_
      rintro _ ⟨y, rfl⟩
      clear HM q0
      go_wp2_with fail
      go_roundw
      case rel => exact ⟨j + 1, by omega, by go_num, by rw [HK.out]; go_num, HB.out y⟩
      case measure => simp [intOf]; omega
    · obtain rfl : j = n := by omega
      clear hx
      go_wp2_with fail
      go_ret
      exact ⟨rfl, hb⟩
end Go.Proofs.Ytjcklmhgjdmjoaa

