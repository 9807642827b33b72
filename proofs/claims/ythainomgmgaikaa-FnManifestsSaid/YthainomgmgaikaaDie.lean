/- The draws of FnManifests: the arguments of its functions. (by gen_die.py) -/
import Derived.Test.YthainomgmgaikaaDid
import Derived.Test.YthainomgmgaikaaManb
namespace Go.Proofs.Ythainomgmgaikaa
open Go.ChangeShapes Go.WideShapes Go.ChangeAt Go.RowKit
set_option linter.unusedVariables false

def tI5 : List (List UInt8) := [[105, 114, 111, 110, 97], [122, 105, 110, 99], [97, 112, 112, 108, 101], [119, 111, 111, 108], [82, 101, 115, 116]]
theorem Iok.sz {p : Ist} (h : Iok p) : p.sz ≤ 14 := by have := h.1; have := h.2.1; unfold Ist.sz; omega
theorem IDr.tbl {w : World} {lo d : Nat} {B : Option Addr} {ps : List Ist} (h : IDr w lo B d ps) : ITbl w B ps :=
  ⟨h.2.2.1.row, fun p hp => Nat.le_trans (h.2.2.2 p hp).sz (by decide), Nat.le_trans h.2.1 (by decide)⟩
theorem IDr.below {w w' : World} {lo d : Nat} {B : Option Addr} {ps : List Ist} (h : IDr w lo B d ps) (hb : Below w.heap.size w w') : IDr w' lo B d ps := ⟨h.1, h.2.1, h.2.2.1.below hb, h.2.2.2⟩
theorem IDr.src {w w' : World} {lo d g : Nat} {B : Option Addr} {ps : List Ist} (h : IDr w lo B d ps) (hg : w.grownBy w' (some g)) (hl : g < lo) : IDr w' lo B d ps := ⟨h.1, h.2.1, own_srcI h.2.2.1 hg hl, h.2.2.2⟩
theorem IDr.low {w : World} {lo lo' d : Nat} {B : Option Addr} {ps : List Ist} (h : IDr w lo B d ps) (hl : lo' ≤ lo) : IDr w lo' B d ps := ⟨h.1, h.2.1, h.2.2.1.mono hl, h.2.2.2⟩
def DrawnI (w : World) (e : Ending) (w' : World) : Prop :=
  ∃ (B : Option Addr) (d : Nat) (ps : List Ist), e = .returned (.slice B ps.length d) ∧ IDr w' w.heap.size B d ps ∧ Below w.heap.size w w'
def DrawnIS (w : World) (e : Ending) (w' : World) : Prop :=
  ∃ (B : Option Addr) (d : Nat) (ps : List Ist) (s : List UInt8), e = .returned (.tuple #[.slice B ps.length d, .string ⟨s.toArray⟩]) ∧ IDr w' w.heap.size B d ps ∧ s.length ≤ 7 ∧ Below w.heap.size w w'
def DrawnIP (w : World) (e : Ending) (w' : World) : Prop :=
  ∃ (B : Option Addr) (d : Nat) (ps : List Ist) (s r : List UInt8) (u : Int), e = .returned (.tuple #[.slice B ps.length d, .string ⟨s.toArray⟩, .string ⟨r.toArray⟩, .int .i64 u]) ∧ IDr w' w.heap.size B d ps ∧ s.length ≤ 7 ∧ r.length ≤ 7 ∧ Below w.heap.size w w'
set_option maxHeartbeats 1000000 in
theorem drawI (A : Option Addr) (c : Nat) (bs : List Int) (w : World) (h : Code0 w A bs) : Calls Try.prog 15 #[.slice A bs.length c] w (DrawnI w) := by
  go_enter Try.func15, Try.ntmps15
  go_wp2_with fail
  refine (code_from A c bs _ h).mono ?_
  rintro e w1 ⟨g, rfl, s1, b1⟩
  go_wp2_with fail
  refine (draw_id g _ A c bs _ s1).mono ?_
  rintro e w2 ⟨B, d, ps, rfl, d2, s2, g2⟩
  go_wp2_with fail
  go_ret
  exact ⟨B, d, ps, rfl, d2.low b1.size, src_below b1 g2 s1.1⟩
set_option maxHeartbeats 1000000 in
theorem drawIC (A : Option Addr) (c : Nat) (bs : List Int) (w : World) (h : Code0 w A bs) : Calls Try.prog 20 #[.slice A bs.length c] w (DrawnIS w) := by
  go_enter Try.func20, Try.ntmps20
  go_wp2_with fail
  refine (code_from A c bs _ h).mono ?_
  rintro e w1 ⟨g, rfl, s1, b1⟩
  have hg := s1.lt
  go_wp2_with fail
  refine (draw_id g _ A c bs _ s1).mono ?_
  rintro e w2 ⟨B, d, ps, rfl, d2, s2, g2⟩
  go_wp2_with fail
  refine (code12_any g _ A c bs _ s2).mono ?_
  rintro e w3 ⟨s, rfl, sl, s3, g3⟩
  have d3 := (d2.src g3 hg).low b1.size
  go_wp2_with fail
  refine bodyPost_ret (v := .tuple #[.slice B ps.length d, .string ⟨s.toArray⟩]) (by simp [results, Try.results20, go_sem]) rfl ?_
  exact ⟨B, d, ps, s, rfl, d3, sl, src_below b1 (g2.trans g3) s1.1⟩
set_option maxHeartbeats 1000000 in
theorem drawIF (A : Option Addr) (c : Nat) (bs : List Int) (w : World) (h : Code0 w A bs) : Calls Try.prog 23 #[.slice A bs.length c] w (DrawnIS w) := by
  go_enter Try.func23, Try.ntmps23
  go_wp2_with fail
  refine (code_from A c bs _ h).mono ?_
  rintro e w1 ⟨g, rfl, s1, b1⟩
  have hg := s1.lt
  go_wp2_with fail
  refine (draw_id g _ A c bs _ s1).mono ?_
  rintro e w2 ⟨B, d, ps, rfl, d2, s2, g2⟩
  go_wp2_with fail
  refine (code11_any g _ A c bs _ s2).mono ?_
  rintro e w3 ⟨s, rfl, sl, s3, g3⟩
  have d3 := (d2.src g3 hg).low b1.size
  go_wp2_with fail
  refine bodyPost_ret (v := .tuple #[.slice B ps.length d, .string ⟨s.toArray⟩]) (by simp [results, Try.results23, go_sem]) rfl ?_
  exact ⟨B, d, ps, s, rfl, d3, sl, src_below b1 (g2.trans g3) s1.1⟩
/-! ### DrawSplitParcel: its last region -/
section
variable {P : Program} {ops : Array Oper} {Q : Exit → Act → World → Prop}
/-- Each operation waits for earlier ones alone, where an order of any kind binds. -/
def backA (ops : Array Oper) : Bool := (List.range ops.size).all fun i => match ops[i]? with | some o => o.after.all (fun e => !Region.binds .any e || decide (e.on < i)) | none => true
theorem ready_nilA {d : Array Bool} (hb : backA ops = true) (hsz : d.size = ops.size) (hr : Region.ready .any ops d = []) : ∀ i, i < ops.size → d.getD i true = true := by
  intro i
  induction i using Nat.strongRecOn with
  | _ i ih =>
    intro hi
    cases hd : d.getD i true with
    | true => rfl
    | false =>
      exfalso
      have hoi : ops[i]? = some ops[i] := Array.getElem?_eq_getElem hi
      have : i ∈ Region.ready .any ops d := by
        refine mem_ready.2 ⟨hd, _, hoi, fun e he hbd => ?_⟩
        have h1 := List.all_eq_true.1 hb i (List.mem_range.2 hi)
        simp only [hoi] at h1
        have h2 : e.on < i := by
          have := Array.all_eq_true'.1 h1 e he
          rw [hbd] at this
          simpa using this
        have h3 := ih e.on h2 (by omega)
        have hlt : e.on < d.size := by omega
        simp [hlt] at h3 ⊢
        exact h3
      rw [hr] at this; cases this
theorem region_invA {id : Nat} {a : Act} {w : World} (hm : P.follows .mixedOrders = true) (hb : backA ops = true) (Inv : Array Bool → Act → World → Prop) (h0 : Inv (Array.replicate ops.size false) a w.drew)
    (hstep : ∀ i d a w, i ∈ Region.ready .any ops d → Inv d a w → wpOp P ops Q i (fun a' w' => Inv (d.setIfInBounds i true) a' w') a w)
    (hend : ∀ d a w, d.size = ops.size → (∀ i, i < ops.size → d.getD i true = true) → Inv d a w → Q .normal a w) : (Code.region id ops true).wp P Q a w :=
  wp_region_any hm (any_inv (fun d a w => d.size = ops.size ∧ Inv d a w)
    (fun i d a w hi hI => wpOp_mono (fun a' w' h => ⟨by rw [Array.size_setIfInBounds]; exact hI.1, h⟩) (hstep i d a w hi hI.2))
    (fun d a w hI hr => hend d a w hI.1 (ready_nilA hb hI.1 hr) hI.2) _ _ a w.drew (undone_le _ _) ⟨by simp, h0⟩)
end
def updS (us : Nat → Value) (j : Nat) (v : Value) : Nat → Value := fun n => if n = j then v else us n
def frS (us : Nat → Value) : Act := { tmps := #[us 0, us 1, us 2, us 3, us 4, us 5, us 6, us 7, us 8, us 9, us 10, us 11, us 12, us 13, us 14, us 15, us 16, us 17, us 18, us 19, us 20, us 21, us 22, us 23, us 24, us 25, us 26, us 27, us 28, us 29, us 30, us 31, us 32, us 33, us 34, us 35, us 36, us 37, us 38, us 39, us 40, us 41, us 42, us 43, us 44, us 45, us 46, us 47, us 48, us 49, us 50, us 51, us 52], defers := [] }
theorem frS_of {x0 x1 x2 x3 x4 x5 x6 x7 x8 x9 x10 x11 x12 x13 x14 x15 x16 x17 x18 x19 x20 x21 x22 x23 x24 x25 x26 x27 x28 x29 x30 x31 x32 x33 x34 x35 x36 x37 x38 x39 x40 x41 x42 x43 x44 x45 x46 x47 x48 x49 x50 x51 x52 : Value} : ({ tmps := #[x0, x1, x2, x3, x4, x5, x6, x7, x8, x9, x10, x11, x12, x13, x14, x15, x16, x17, x18, x19, x20, x21, x22, x23, x24, x25, x26, x27, x28, x29, x30, x31, x32, x33, x34, x35, x36, x37, x38, x39, x40, x41, x42, x43, x44, x45, x46, x47, x48, x49, x50, x51, x52], defers := [] } : Act) = frS (fun k => #[x0, x1, x2, x3, x4, x5, x6, x7, x8, x9, x10, x11, x12, x13, x14, x15, x16, x17, x18, x19, x20, x21, x22, x23, x24, x25, x26, x27, x28, x29, x30, x31, x32, x33, x34, x35, x36, x37, x38, x39, x40, x41, x42, x43, x44, x45, x46, x47, x48, x49, x50, x51, x52].getD k undef) := rfl
structure FixS (g : Nat) (L : Value) (s : List UInt8) (u : Int) (us : Nat → Value) : Prop where
  u6 : us 6 = .pointer (some ⟨g, 0, none⟩)
  u7 : us 7 = L
  u8 : us 8 = .string ⟨s.toArray⟩
  u9 : us 9 = .int .i64 u
theorem FixS.upd {g : Nat} {L : Value} {s : List UInt8} {u : Int} {us : Nat → Value} (h : FixS g L s u us) {j : Nat} (hj : j ≤ 5 ∨ 10 ≤ j) (v : Value) : FixS g L s u (updS us j v) :=
  ⟨by unfold updS; rw [if_neg (by omega)]; exact h.u6, by unfold updS; rw [if_neg (by omega)]; exact h.u7, by unfold updS; rw [if_neg (by omega)]; exact h.u8, by unfold updS; rw [if_neg (by omega)]; exact h.u9⟩
def Row5S (W : World) (B : Nat) : Prop := W.heap[B]? = some (.cells (tI5.map strI).toArray 9 (0, 0))
def GoodS (g : Nat) (L : Value) (s : List UInt8) (u : Int) (k : Nat) (v : Value) (W : World) : Prop :=
  match k with
  | 0 => v = L
  | 1 => v = .string ⟨s.toArray⟩
  | 2 => ∃ B, v = .slice (some ⟨B, 0, none⟩) 5 5 ∧ Row5S W B ∧ B ≠ g
  | 3 => v = .pointer (some ⟨g, 0, none⟩)
  | 4 => ∃ r : Nat, r < 5 ∧ v = .int .i64 r
  | 5 => ∃ B r : Nat, r < 5 ∧ v = .pointer (some ⟨B, r, none⟩) ∧ Row5S W B ∧ B ≠ g
  | 6 => ∃ t : List UInt8, v = .string ⟨t.toArray⟩ ∧ t.length ≤ 7
  | 7 => v = .int .i64 u
  | 8 => v = L
  | 9 => v = .string ⟨s.toArray⟩
  | 10 => ∃ t : List UInt8, v = .string ⟨t.toArray⟩ ∧ t.length ≤ 7
  | _ => v = .int .i64 u
theorem GoodS.mono {g k : Nat} {L : Value} {s : List UInt8} {u : Int} {v : Value} {W W' : World} (h : GoodS g L s u k v W) (hg : W.grownBy W' (some g)) : GoodS g L s u k v W' := by
  unfold GoodS at *
  split at h
  all_goals first
    | exact h
    | (obtain ⟨B, e, h1, h2⟩ := h
       exact ⟨B, e, keepG hg h1 h2, h2⟩)
    | (obtain ⟨B, r, h0, e, h1, h2⟩ := h
       exact ⟨B, r, h0, e, keepG hg h1 h2, h2⟩)
def dstS (k : Nat) : Nat := if k < 8 then k + 45 else k - 6
theorem goodS_set {g j : Nat} {L : Value} {s : List UInt8} {u : Int} {d : Array Bool} {us : Nat → Value} {v : Value} {W W' : World} (hj : j < 12) (h : ∀ k, k < 12 → d.getD k false = true → GoodS g L s u k (us (dstS k)) W) (hg : W.grownBy W' (some g)) (hn : GoodS g L s u j v W') :
    ∀ k, k < 12 → (d.setIfInBounds j true).getD k false = true → GoodS g L s u k (updS us (dstS j) v (dstS k)) W' := by
  intro k hk hd
  by_cases e : j = k
  · subst e; unfold updS; rw [if_pos rfl]; exact hn
  · rw [getD_set_ne false e] at hd
    have hne : dstS k ≠ dstS j := by unfold dstS; split <;> split <;> omega
    unfold updS
    rw [if_neg hne]
    exact (h k hk hd).mono hg
def RInvS (w : World) (base g : Nat) (A : Option Addr) (c : Nat) (bs : List Int) (L : Value) (s : List UInt8) (u : Int) (d : Array Bool) (a : Act) (W : World) : Prop :=
  ∃ us, a = frS us ∧ FixS g L s u us ∧ Src W base g A c bs ∧ w.grownBy W (some g) ∧ ∀ k, k < 12 → d.getD k false = true → GoodS g L s u k (us (dstS k)) W
set_option maxRecDepth 100000 in
set_option maxHeartbeats 16000000 in
theorem drawIP (A : Option Addr) (c : Nat) (bs : List Int) (w : World) (h : Code0 w A bs) : Calls Try.prog 12 #[.slice A bs.length c] w (DrawnIP w) := by
  go_enter Try.func12, Try.ntmps12
  go_wp2_with fail
  refine (code_from A c bs _ h).mono ?_
  rintro e w1 ⟨g, rfl, s1, b1⟩
  have hg := s1.lt
  go_wp2_with fail
  refine (draw_id g _ A c bs _ s1).mono ?_
  rintro e w2 ⟨B, d, ps, rfl, d2, s2, g2⟩
  go_wp2_with fail
  refine (code11_any g _ A c bs _ s2).mono ?_
  rintro e w3 ⟨s, rfl, sl, s3, g3⟩
  go_wp2_with fail
  refine (good_any g _ A c bs _ s3).mono ?_
  rintro e w4 ⟨v, rfl, v0, v1, s4, g4⟩
  have d4 := (d2.src g3 hg).src g4 hg
  have G4 := (g2.trans g3).trans g4
  have h40 : ps.length ≤ 40 := d2.2.1
  clear d2 s2 s3 g2 g3 g4 h
  obtain ⟨base, hbase⟩ : ∃ x, x = w.heap.size := ⟨_, rfl⟩
  have HPO_w4 := Lib.hid (fun (t : List UInt8) (u : Int) (W : World) (ht : t.length ≤ 7) (hs : Src W w.heap.size g A c bs) (hG : w4.grownBy W (some g)) => (⟨B, d, ps, s, t, u, rfl, ((d4).src hG hg).low b1.size, sl, ht, src_below b1 ((G4).trans hG) s1.1⟩ : DrawnIP w (.returned (.tuple #[.slice B ps.length d, .string ⟨s.toArray⟩, .string ⟨t.toArray⟩, .int .i64 u])) W))
  have HFI := Lib.hid (find_sM B d ps s w4 d4.tbl.row (by omega))
  rcases (by
    cases hf : fndM ps s with
    | none => exact .inl (by unfold fndIM; rw [hf])
    | some k =>
      obtain ⟨p, hp, _⟩ := fnd_atM hf
      exact .inr ⟨k, p, by unfold fndIM; rw [hf], hp, (List.getElem?_eq_some_iff.1 hp).1⟩ : fndIM ps s = -1 ∨ ∃ (k : Nat) (p : Ist), fndIM ps s = k ∧ ps[k]? = some p ∧ k < ps.length) with hf | ⟨k, p, hf, hp, hk⟩
  · rw [hf] at HFI
    clear hf
    subst hbase
    go_wp2_with fail
    refine HFI.out.mono ?_
    rintro e w5 ⟨rfl, rfl⟩
    go_wp2_with fail
    refine region_invA (by kernel_rfl) (by kernel_rfl) (RInvS w4 w.heap.size g A c bs (.slice B ps.length d) s v) ?_ ?_ ?_
    · exact ⟨_, frS_of, ⟨rfl, rfl, rfl, rfl⟩, s4, ⟨rfl, rfl, rfl, Nat.le_refl _, fun _ _ _ => rfl⟩, fun k hk hd => by rw [getD_repI] at hd; cases hd⟩
    · generalize v = u at *
      intro j dd a W hj hI
      obtain ⟨hun, oi, hoi, hall⟩ := mem_ready.1 hj
      have hj14 : j < 12 := (Array.getElem?_eq_some_iff.1 hoi).1
      obtain ⟨us, rfl, hF, hs, hG, hI⟩ := hI
      have e6 := hF.u6
      have e7 := hF.u7
      have e8 := hF.u8
      have e9 := hF.u9
      rcases (by omega : j = 0 ∨ j = 1 ∨ j = 2 ∨ j = 3 ∨ j = 4 ∨ j = 5 ∨ j = 6 ∨ j = 7 ∨ j = 8 ∨ j = 9 ∨ j = 10 ∨ j = 11) with rfl | rfl | rfl | rfl | rfl | rfl | rfl | rfl | rfl | rfl | rfl | rfl
      all_goals
        obtain rfl := Option.some.inj hoi
        clear hoi hj14 hj hun
      · skip
        refine wpOp_step rfl (fun K hK => ?_)
        simp only [frS, e6, e7, e8, e9]
        go_simp
        refine hK _ _ ⟨updS us 45 (.slice B ps.length d), by simp [frS, updS, e6, e7, e8, e9], hF.upd (by decide) _, hs, hG, goodS_set (j := 0) (by omega) hI (World.grownBy.refl _ _) rfl⟩
      · skip
        refine wpOp_step rfl (fun K hK => ?_)
        simp only [frS, e6, e7, e8, e9]
        go_simp
        refine hK _ _ ⟨updS us 46 (.string ⟨s.toArray⟩), by simp [frS, updS, e6, e7, e8, e9], hF.upd (by decide) _, hs, hG, goodS_set (j := 1) (by omega) hI (World.grownBy.refl _ _) rfl⟩
      · skip
        refine wpOp_step rfl (fun K hK => ?_)
        simp only [frS, e6, e7, e8, e9]
        go_simp
        refine hK _ _ ⟨updS us 47 (.slice (some ⟨W.heap.size, 0, none⟩) 5 5), by simp [frS, updS, e6, e7, e8, e9], hF.upd (by decide) _, (hs.alloc _), (hG.trans (World.grownBy_alloc _ _ _)), goodS_set (j := 2) (by omega) hI (World.grownBy_alloc _ _ _) ⟨_, rfl, heap_alloc_new W _, by have := hs.lt; omega⟩⟩
      · skip
        refine wpOp_step rfl (fun K hK => ?_)
        simp only [frS, e6, e7, e8, e9]
        go_simp
        refine hK _ _ ⟨updS us 48 (.pointer (some ⟨g, 0, none⟩)), by simp [frS, updS, e6, e7, e8, e9], hF.upd (by decide) _, hs, hG, goodS_set (j := 3) (by omega) hI (World.grownBy.refl _ _) rfl⟩
      · have e48 : us 48 = .pointer (some ⟨g, 0, none⟩) := hI 3 (by omega) (hall ⟨3, .data⟩ (by simp) rfl)
        refine wpOp_step rfl (fun K hK => ?_)
        simp only [frS, e6, e7, e8, e9, e48]
        go_simp
        go_wp2_with (go_at_call 48; refine (next_any g _ w.heap.size A c bs _ hs (by omega)).mono ?_; rintro e W2 ⟨r, rfl, r0, r1, hs2, hg2⟩)
        exact ⟨updS us 49 (.int .i64 r), by simp [frS, updS, e6, e7, e8, e9, e48], hF.upd (by decide) _, hs2, (hG.trans hg2), goodS_set (j := 4) (by omega) hI hg2 (by obtain ⟨m, rfl⟩ := Int.eq_ofNat_of_zero_le r0; exact ⟨m, by omega, rfl⟩)⟩
      · obtain ⟨B1, e47, hB, hBg⟩ : ∃ B, us 47 = .slice (some ⟨B, 0, none⟩) 5 5 ∧ Row5S W B ∧ B ≠ g := hI 2 (by omega) (hall ⟨2, .data⟩ (by simp) rfl)
        obtain ⟨r, hr, e49⟩ : ∃ r : Nat, r < 5 ∧ us 49 = .int .i64 r := hI 4 (by omega) (hall ⟨4, .data⟩ (by simp) rfl)
        refine wpOp_step rfl (fun K hK => ?_)
        simp only [frS, e6, e7, e8, e9, e47, e49]
        go_simp
        try (rw [if_pos (by omega)]; go_simp)
        refine hK _ _ ⟨updS us 50 (.pointer (some ⟨B1, r, none⟩)), by simp [frS, updS, e6, e7, e8, e9, e47, e49], hF.upd (by decide) _, hs, hG, goodS_set (j := 5) (by omega) hI (World.grownBy.refl _ _) ⟨B1, r, hr, rfl, hB, hBg⟩⟩
      · obtain ⟨B1, r, hr, e50, hB, hBg⟩ : ∃ B r : Nat, r < 5 ∧ us 50 = .pointer (some ⟨B, r, none⟩) ∧ Row5S W B ∧ B ≠ g := hI 5 (by omega) (hall ⟨5, .data⟩ (by simp) rfl)
        obtain ⟨t, htl, hv⟩ := text_atI (ts := tI5) (by decide) (k := r) hr
        have hcell : W.cell? ⟨B1, r, none⟩ = some (.string ⟨t.toArray⟩) := by rw [cell_of_row _ _ _ _ _ _ hB]; simpa using hv
        refine wpOp_step rfl (fun K hK => ?_)
        simp only [frS, e6, e7, e8, e9, e50]
        go_simp
        refine hK _ _ ⟨updS us 51 (.string ⟨t.toArray⟩), by simp [frS, updS, e6, e7, e8, e9, e50], hF.upd (by decide) _, hs, hG, goodS_set (j := 6) (by omega) hI (World.grownBy.refl _ _) ⟨t, rfl, htl⟩⟩
      · skip
        refine wpOp_step rfl (fun K hK => ?_)
        simp only [frS, e6, e7, e8, e9]
        go_simp
        refine hK _ _ ⟨updS us 52 (.int .i64 u), by simp [frS, updS, e6, e7, e8, e9], hF.upd (by decide) _, hs, hG, goodS_set (j := 7) (by omega) hI (World.grownBy.refl _ _) rfl⟩
      · have e45 : us 45 = .slice B ps.length d := hI 0 (by omega) (hall ⟨0, .data⟩ (by simp) rfl)
        refine wpOp_step rfl (fun K hK => ?_)
        simp only [frS, e6, e7, e8, e9, e45]
        go_simp
        refine hK _ _ ⟨updS us 2 (.slice B ps.length d), by simp [frS, updS, e6, e7, e8, e9, e45], hF.upd (by decide) _, hs, hG, goodS_set (j := 8) (by omega) hI (World.grownBy.refl _ _) rfl⟩
      · have e46 : us 46 = .string ⟨s.toArray⟩ := hI 1 (by omega) (hall ⟨1, .data⟩ (by simp) rfl)
        refine wpOp_step rfl (fun K hK => ?_)
        simp only [frS, e6, e7, e8, e9, e46]
        go_simp
        refine hK _ _ ⟨updS us 3 (.string ⟨s.toArray⟩), by simp [frS, updS, e6, e7, e8, e9, e46], hF.upd (by decide) _, hs, hG, goodS_set (j := 9) (by omega) hI (World.grownBy.refl _ _) rfl⟩
      · obtain ⟨t, e51, htl⟩ : ∃ t : List UInt8, us 51 = .string ⟨t.toArray⟩ ∧ t.length ≤ 7 := hI 6 (by omega) (hall ⟨6, .data⟩ (by simp) rfl)
        refine wpOp_step rfl (fun K hK => ?_)
        simp only [frS, e6, e7, e8, e9, e51]
        go_simp
        refine hK _ _ ⟨updS us 4 (.string ⟨t.toArray⟩), by simp [frS, updS, e6, e7, e8, e9, e51], hF.upd (by decide) _, hs, hG, goodS_set (j := 10) (by omega) hI (World.grownBy.refl _ _) ⟨t, rfl, htl⟩⟩
      · have e52 : us 52 = .int .i64 u := hI 7 (by omega) (hall ⟨7, .data⟩ (by simp) rfl)
        refine wpOp_step rfl (fun K hK => ?_)
        simp only [frS, e6, e7, e8, e9, e52]
        go_simp
        refine hK _ _ ⟨updS us 5 (.int .i64 u), by simp [frS, updS, e6, e7, e8, e9, e52], hF.upd (by decide) _, hs, hG, goodS_set (j := 11) (by omega) hI (World.grownBy.refl _ _) rfl⟩
    · rintro dd a W hsz2 hall ⟨us, rfl, hF, hs2, hG, hI⟩
      have hd : ∀ k, k < 12 → dd.getD k false = true := fun k hk => by
        have h9 := hall k (by simpa using hk)
        have : k < dd.size := by rw [hsz2]; simpa using hk
        simp [this] at h9 ⊢; exact h9
      have e2 : us 2 = .slice B ps.length d := hI 8 (by omega) (hd 8 (by omega))
      have e3 : us 3 = .string ⟨s.toArray⟩ := hI 9 (by omega) (hd 9 (by omega))
      obtain ⟨t, e4, htl⟩ : ∃ t : List UInt8, us 4 = .string ⟨t.toArray⟩ ∧ t.length ≤ 7 := hI 10 (by omega) (hd 10 (by omega))
      have e5 : us 5 = .int .i64 v := hI 11 (by omega) (hd 11 (by omega))
      have HP := Lib.hid (HPO_w4.out t v W htl hs2 hG)
      clear hall hsz2 hI hd hs2 hG
      simp only [frS, e2, e3, e4, e5]
      go_wp2_with fail
      refine bodyPost_ret (v := .tuple #[.slice B ps.length d, .string ⟨s.toArray⟩, .string ⟨t.toArray⟩, .int .i64 v]) (by simp [results, Try.results12, go_sem]) rfl ?_
      exact HP.out
  · rw [hf] at HFI
    clear hf
    subst hbase
    obtain ⟨b, off, q, hB, hl, hq, hq4⟩ := d4.tbl.row.at hk
    obtain rfl : p = q := by have h2 := hq.out; rw [hp] at h2; exact Option.some.inj h2
    have hpk := d4.2.2.2 p (List.mem_of_getElem? hp)
    have hpv0 := hpk.2.2.1
    have hpv1 := hpk.2.2.2
    have HQ4 := Lib.hid (fun W (hG : w4.grownBy W (some g)) => ((d4.src hG hg).tbl.row.at hk))
    have HPp := Lib.hid hp
    subst hB
    have c3 := hq4.c3
    clear hq hq4 hp hpk
    rcases Bool.eq_false_or_eq_true (amt p.v) with ha | ha
    · obtain ⟨ha0, ha1⟩ := amt_iff.1 ha
      go_wp2_with fail
      refine HFI.out.mono ?_
      rintro e w5 ⟨rfl, rfl⟩
      go_wp2_with (go_at_call 47; refine (amtS_qM ha _).mono ?_; rintro e w' ⟨rfl, rfl⟩)
      refine (next_any g 6 _ A c bs _ s4 (by omega)).mono ?_
      rintro e w6 ⟨r, rfl, r0, r1, s6, g6⟩
      have HPO_w6 := Lib.hid (fun (t : List UInt8) (u : Int) (W : World) (ht : t.length ≤ 7) (hs : Src W w.heap.size g A c bs) (hG : w6.grownBy W (some g)) => (⟨some ⟨b, off, none⟩, d, ps, s, t, u, rfl, ((d4.src g6 hg).src hG hg).low b1.size, sl, ht, src_below b1 ((G4.trans g6).trans hG) s1.1⟩ : DrawnIP w (.returned (.tuple #[.slice (some ⟨b, off, none⟩) ps.length d, .string ⟨s.toArray⟩, .string ⟨t.toArray⟩, .int .i64 u])) W))
      by_cases hr : 0 < r
      · obtain ⟨b', off', q, hB, hl2, hq, hq4⟩ := HQ4.out _ g6
        obtain ⟨rfl, rfl⟩ : b = b' ∧ off = off' := by injection hB with h; injection h with h1 h2; exact ⟨h1, h2⟩
        obtain rfl : p = q := by have h1 := HPp.out; have h2 := hq.out; rw [h1] at h2; exact Option.some.inj h2
        have c3 := hq4.c3
        clear hq hq4 hB
        have d6 := Lib.hid (d4.src g6 hg)
        have G6 := Lib.hid (G4.trans g6)
        go_wp2_with fail
        refine (next_any g _ _ A c bs _ s6 (by omega)).mono ?_
        rintro e w7 ⟨z, rfl, z0, z1, s7, g7⟩
        have HPO_w7 := Lib.hid (fun (t : List UInt8) (u : Int) (W : World) (ht : t.length ≤ 7) (hs : Src W w.heap.size g A c bs) (hG : w7.grownBy W (some g)) => (⟨some ⟨b, off, none⟩, d, ps, s, t, u, rfl, ((d6.out.src g7 hg).src hG hg).low b1.size, sl, ht, src_below b1 ((G6.out.trans g7).trans hG) s1.1⟩ : DrawnIP w (.returned (.tuple #[.slice (some ⟨b, off, none⟩) ps.length d, .string ⟨s.toArray⟩, .string ⟨t.toArray⟩, .int .i64 u])) W))
        go_wp2_with fail
        refine region_invA (by kernel_rfl) (by kernel_rfl) (RInvS w7 w.heap.size g A c bs (.slice (some ⟨b, off, none⟩) ps.length d) s z) ?_ ?_ ?_
        · exact ⟨_, frS_of, ⟨rfl, rfl, rfl, rfl⟩, s7, ⟨rfl, rfl, rfl, Nat.le_refl _, fun _ _ _ => rfl⟩, fun k hk hd => by rw [getD_repI] at hd; cases hd⟩
        · generalize z = u at *
          intro j dd a W hj hI
          obtain ⟨hun, oi, hoi, hall⟩ := mem_ready.1 hj
          have hj14 : j < 12 := (Array.getElem?_eq_some_iff.1 hoi).1
          obtain ⟨us, rfl, hF, hs, hG, hI⟩ := hI
          have e6 := hF.u6
          have e7 := hF.u7
          have e8 := hF.u8
          have e9 := hF.u9
          rcases (by omega : j = 0 ∨ j = 1 ∨ j = 2 ∨ j = 3 ∨ j = 4 ∨ j = 5 ∨ j = 6 ∨ j = 7 ∨ j = 8 ∨ j = 9 ∨ j = 10 ∨ j = 11) with rfl | rfl | rfl | rfl | rfl | rfl | rfl | rfl | rfl | rfl | rfl | rfl
          all_goals
            obtain rfl := Option.some.inj hoi
            clear hoi hj14 hj hun
          · skip
            refine wpOp_step rfl (fun K hK => ?_)
            simp only [frS, e6, e7, e8, e9]
            go_simp
            refine hK _ _ ⟨updS us 45 (.slice (some ⟨b, off, none⟩) ps.length d), by simp [frS, updS, e6, e7, e8, e9], hF.upd (by decide) _, hs, hG, goodS_set (j := 0) (by omega) hI (World.grownBy.refl _ _) rfl⟩
          · skip
            refine wpOp_step rfl (fun K hK => ?_)
            simp only [frS, e6, e7, e8, e9]
            go_simp
            refine hK _ _ ⟨updS us 46 (.string ⟨s.toArray⟩), by simp [frS, updS, e6, e7, e8, e9], hF.upd (by decide) _, hs, hG, goodS_set (j := 1) (by omega) hI (World.grownBy.refl _ _) rfl⟩
          · skip
            refine wpOp_step rfl (fun K hK => ?_)
            simp only [frS, e6, e7, e8, e9]
            go_simp
            refine hK _ _ ⟨updS us 47 (.slice (some ⟨W.heap.size, 0, none⟩) 5 5), by simp [frS, updS, e6, e7, e8, e9], hF.upd (by decide) _, (hs.alloc _), (hG.trans (World.grownBy_alloc _ _ _)), goodS_set (j := 2) (by omega) hI (World.grownBy_alloc _ _ _) ⟨_, rfl, heap_alloc_new W _, by have := hs.lt; omega⟩⟩
          · skip
            refine wpOp_step rfl (fun K hK => ?_)
            simp only [frS, e6, e7, e8, e9]
            go_simp
            refine hK _ _ ⟨updS us 48 (.pointer (some ⟨g, 0, none⟩)), by simp [frS, updS, e6, e7, e8, e9], hF.upd (by decide) _, hs, hG, goodS_set (j := 3) (by omega) hI (World.grownBy.refl _ _) rfl⟩
          · have e48 : us 48 = .pointer (some ⟨g, 0, none⟩) := hI 3 (by omega) (hall ⟨3, .data⟩ (by simp) rfl)
            refine wpOp_step rfl (fun K hK => ?_)
            simp only [frS, e6, e7, e8, e9, e48]
            go_simp
            go_wp2_with (go_at_call 48; refine (next_any g _ w.heap.size A c bs _ hs (by omega)).mono ?_; rintro e W2 ⟨r, rfl, r0, r1, hs2, hg2⟩)
            exact ⟨updS us 49 (.int .i64 r), by simp [frS, updS, e6, e7, e8, e9, e48], hF.upd (by decide) _, hs2, (hG.trans hg2), goodS_set (j := 4) (by omega) hI hg2 (by obtain ⟨m, rfl⟩ := Int.eq_ofNat_of_zero_le r0; exact ⟨m, by omega, rfl⟩)⟩
          · obtain ⟨B1, e47, hB, hBg⟩ : ∃ B, us 47 = .slice (some ⟨B, 0, none⟩) 5 5 ∧ Row5S W B ∧ B ≠ g := hI 2 (by omega) (hall ⟨2, .data⟩ (by simp) rfl)
            obtain ⟨r, hr, e49⟩ : ∃ r : Nat, r < 5 ∧ us 49 = .int .i64 r := hI 4 (by omega) (hall ⟨4, .data⟩ (by simp) rfl)
            refine wpOp_step rfl (fun K hK => ?_)
            simp only [frS, e6, e7, e8, e9, e47, e49]
            go_simp
            try (rw [if_pos (by omega)]; go_simp)
            refine hK _ _ ⟨updS us 50 (.pointer (some ⟨B1, r, none⟩)), by simp [frS, updS, e6, e7, e8, e9, e47, e49], hF.upd (by decide) _, hs, hG, goodS_set (j := 5) (by omega) hI (World.grownBy.refl _ _) ⟨B1, r, hr, rfl, hB, hBg⟩⟩
          · obtain ⟨B1, r, hr, e50, hB, hBg⟩ : ∃ B r : Nat, r < 5 ∧ us 50 = .pointer (some ⟨B, r, none⟩) ∧ Row5S W B ∧ B ≠ g := hI 5 (by omega) (hall ⟨5, .data⟩ (by simp) rfl)
            obtain ⟨t, htl, hv⟩ := text_atI (ts := tI5) (by decide) (k := r) hr
            have hcell : W.cell? ⟨B1, r, none⟩ = some (.string ⟨t.toArray⟩) := by rw [cell_of_row _ _ _ _ _ _ hB]; simpa using hv
            refine wpOp_step rfl (fun K hK => ?_)
            simp only [frS, e6, e7, e8, e9, e50]
            go_simp
            refine hK _ _ ⟨updS us 51 (.string ⟨t.toArray⟩), by simp [frS, updS, e6, e7, e8, e9, e50], hF.upd (by decide) _, hs, hG, goodS_set (j := 6) (by omega) hI (World.grownBy.refl _ _) ⟨t, rfl, htl⟩⟩
          · skip
            refine wpOp_step rfl (fun K hK => ?_)
            simp only [frS, e6, e7, e8, e9]
            go_simp
            refine hK _ _ ⟨updS us 52 (.int .i64 u), by simp [frS, updS, e6, e7, e8, e9], hF.upd (by decide) _, hs, hG, goodS_set (j := 7) (by omega) hI (World.grownBy.refl _ _) rfl⟩
          · have e45 : us 45 = .slice (some ⟨b, off, none⟩) ps.length d := hI 0 (by omega) (hall ⟨0, .data⟩ (by simp) rfl)
            refine wpOp_step rfl (fun K hK => ?_)
            simp only [frS, e6, e7, e8, e9, e45]
            go_simp
            refine hK _ _ ⟨updS us 2 (.slice (some ⟨b, off, none⟩) ps.length d), by simp [frS, updS, e6, e7, e8, e9, e45], hF.upd (by decide) _, hs, hG, goodS_set (j := 8) (by omega) hI (World.grownBy.refl _ _) rfl⟩
          · have e46 : us 46 = .string ⟨s.toArray⟩ := hI 1 (by omega) (hall ⟨1, .data⟩ (by simp) rfl)
            refine wpOp_step rfl (fun K hK => ?_)
            simp only [frS, e6, e7, e8, e9, e46]
            go_simp
            refine hK _ _ ⟨updS us 3 (.string ⟨s.toArray⟩), by simp [frS, updS, e6, e7, e8, e9, e46], hF.upd (by decide) _, hs, hG, goodS_set (j := 9) (by omega) hI (World.grownBy.refl _ _) rfl⟩
          · obtain ⟨t, e51, htl⟩ : ∃ t : List UInt8, us 51 = .string ⟨t.toArray⟩ ∧ t.length ≤ 7 := hI 6 (by omega) (hall ⟨6, .data⟩ (by simp) rfl)
            refine wpOp_step rfl (fun K hK => ?_)
            simp only [frS, e6, e7, e8, e9, e51]
            go_simp
            refine hK _ _ ⟨updS us 4 (.string ⟨t.toArray⟩), by simp [frS, updS, e6, e7, e8, e9, e51], hF.upd (by decide) _, hs, hG, goodS_set (j := 10) (by omega) hI (World.grownBy.refl _ _) ⟨t, rfl, htl⟩⟩
          · have e52 : us 52 = .int .i64 u := hI 7 (by omega) (hall ⟨7, .data⟩ (by simp) rfl)
            refine wpOp_step rfl (fun K hK => ?_)
            simp only [frS, e6, e7, e8, e9, e52]
            go_simp
            refine hK _ _ ⟨updS us 5 (.int .i64 u), by simp [frS, updS, e6, e7, e8, e9, e52], hF.upd (by decide) _, hs, hG, goodS_set (j := 11) (by omega) hI (World.grownBy.refl _ _) rfl⟩
        · rintro dd a W hsz2 hall ⟨us, rfl, hF, hs2, hG, hI⟩
          have hd : ∀ k, k < 12 → dd.getD k false = true := fun k hk => by
            have h9 := hall k (by simpa using hk)
            have : k < dd.size := by rw [hsz2]; simpa using hk
            simp [this] at h9 ⊢; exact h9
          have e2 : us 2 = .slice (some ⟨b, off, none⟩) ps.length d := hI 8 (by omega) (hd 8 (by omega))
          have e3 : us 3 = .string ⟨s.toArray⟩ := hI 9 (by omega) (hd 9 (by omega))
          obtain ⟨t, e4, htl⟩ : ∃ t : List UInt8, us 4 = .string ⟨t.toArray⟩ ∧ t.length ≤ 7 := hI 10 (by omega) (hd 10 (by omega))
          have e5 : us 5 = .int .i64 z := hI 11 (by omega) (hd 11 (by omega))
          have HP := Lib.hid (HPO_w7.out t z W htl hs2 hG)
          clear hall hsz2 hI hd hs2 hG
          simp only [frS, e2, e3, e4, e5]
          go_wp2_with fail
          refine bodyPost_ret (v := .tuple #[.slice (some ⟨b, off, none⟩) ps.length d, .string ⟨s.toArray⟩, .string ⟨t.toArray⟩, .int .i64 z]) (by simp [results, Try.results12, go_sem]) rfl ?_
          exact HP.out
      · go_wp2_with fail
        refine region_invA (by kernel_rfl) (by kernel_rfl) (RInvS w6 w.heap.size g A c bs (.slice (some ⟨b, off, none⟩) ps.length d) s v) ?_ ?_ ?_
        · exact ⟨_, frS_of, ⟨rfl, rfl, rfl, rfl⟩, s6, ⟨rfl, rfl, rfl, Nat.le_refl _, fun _ _ _ => rfl⟩, fun k hk hd => by rw [getD_repI] at hd; cases hd⟩
        · generalize v = u at *
          intro j dd a W hj hI
          obtain ⟨hun, oi, hoi, hall⟩ := mem_ready.1 hj
          have hj14 : j < 12 := (Array.getElem?_eq_some_iff.1 hoi).1
          obtain ⟨us, rfl, hF, hs, hG, hI⟩ := hI
          have e6 := hF.u6
          have e7 := hF.u7
          have e8 := hF.u8
          have e9 := hF.u9
          rcases (by omega : j = 0 ∨ j = 1 ∨ j = 2 ∨ j = 3 ∨ j = 4 ∨ j = 5 ∨ j = 6 ∨ j = 7 ∨ j = 8 ∨ j = 9 ∨ j = 10 ∨ j = 11) with rfl | rfl | rfl | rfl | rfl | rfl | rfl | rfl | rfl | rfl | rfl | rfl
          all_goals
            obtain rfl := Option.some.inj hoi
            clear hoi hj14 hj hun
          · skip
            refine wpOp_step rfl (fun K hK => ?_)
            simp only [frS, e6, e7, e8, e9]
            go_simp
            refine hK _ _ ⟨updS us 45 (.slice (some ⟨b, off, none⟩) ps.length d), by simp [frS, updS, e6, e7, e8, e9], hF.upd (by decide) _, hs, hG, goodS_set (j := 0) (by omega) hI (World.grownBy.refl _ _) rfl⟩
          · skip
            refine wpOp_step rfl (fun K hK => ?_)
            simp only [frS, e6, e7, e8, e9]
            go_simp
            refine hK _ _ ⟨updS us 46 (.string ⟨s.toArray⟩), by simp [frS, updS, e6, e7, e8, e9], hF.upd (by decide) _, hs, hG, goodS_set (j := 1) (by omega) hI (World.grownBy.refl _ _) rfl⟩
          · skip
            refine wpOp_step rfl (fun K hK => ?_)
            simp only [frS, e6, e7, e8, e9]
            go_simp
            refine hK _ _ ⟨updS us 47 (.slice (some ⟨W.heap.size, 0, none⟩) 5 5), by simp [frS, updS, e6, e7, e8, e9], hF.upd (by decide) _, (hs.alloc _), (hG.trans (World.grownBy_alloc _ _ _)), goodS_set (j := 2) (by omega) hI (World.grownBy_alloc _ _ _) ⟨_, rfl, heap_alloc_new W _, by have := hs.lt; omega⟩⟩
          · skip
            refine wpOp_step rfl (fun K hK => ?_)
            simp only [frS, e6, e7, e8, e9]
            go_simp
            refine hK _ _ ⟨updS us 48 (.pointer (some ⟨g, 0, none⟩)), by simp [frS, updS, e6, e7, e8, e9], hF.upd (by decide) _, hs, hG, goodS_set (j := 3) (by omega) hI (World.grownBy.refl _ _) rfl⟩
          · have e48 : us 48 = .pointer (some ⟨g, 0, none⟩) := hI 3 (by omega) (hall ⟨3, .data⟩ (by simp) rfl)
            refine wpOp_step rfl (fun K hK => ?_)
            simp only [frS, e6, e7, e8, e9, e48]
            go_simp
            go_wp2_with (go_at_call 48; refine (next_any g _ w.heap.size A c bs _ hs (by omega)).mono ?_; rintro e W2 ⟨r, rfl, r0, r1, hs2, hg2⟩)
            exact ⟨updS us 49 (.int .i64 r), by simp [frS, updS, e6, e7, e8, e9, e48], hF.upd (by decide) _, hs2, (hG.trans hg2), goodS_set (j := 4) (by omega) hI hg2 (by obtain ⟨m, rfl⟩ := Int.eq_ofNat_of_zero_le r0; exact ⟨m, by omega, rfl⟩)⟩
          · obtain ⟨B1, e47, hB, hBg⟩ : ∃ B, us 47 = .slice (some ⟨B, 0, none⟩) 5 5 ∧ Row5S W B ∧ B ≠ g := hI 2 (by omega) (hall ⟨2, .data⟩ (by simp) rfl)
            obtain ⟨r, hr, e49⟩ : ∃ r : Nat, r < 5 ∧ us 49 = .int .i64 r := hI 4 (by omega) (hall ⟨4, .data⟩ (by simp) rfl)
            refine wpOp_step rfl (fun K hK => ?_)
            simp only [frS, e6, e7, e8, e9, e47, e49]
            go_simp
            try (rw [if_pos (by omega)]; go_simp)
            refine hK _ _ ⟨updS us 50 (.pointer (some ⟨B1, r, none⟩)), by simp [frS, updS, e6, e7, e8, e9, e47, e49], hF.upd (by decide) _, hs, hG, goodS_set (j := 5) (by omega) hI (World.grownBy.refl _ _) ⟨B1, r, hr, rfl, hB, hBg⟩⟩
          · obtain ⟨B1, r, hr, e50, hB, hBg⟩ : ∃ B r : Nat, r < 5 ∧ us 50 = .pointer (some ⟨B, r, none⟩) ∧ Row5S W B ∧ B ≠ g := hI 5 (by omega) (hall ⟨5, .data⟩ (by simp) rfl)
            obtain ⟨t, htl, hv⟩ := text_atI (ts := tI5) (by decide) (k := r) hr
            have hcell : W.cell? ⟨B1, r, none⟩ = some (.string ⟨t.toArray⟩) := by rw [cell_of_row _ _ _ _ _ _ hB]; simpa using hv
            refine wpOp_step rfl (fun K hK => ?_)
            simp only [frS, e6, e7, e8, e9, e50]
            go_simp
            refine hK _ _ ⟨updS us 51 (.string ⟨t.toArray⟩), by simp [frS, updS, e6, e7, e8, e9, e50], hF.upd (by decide) _, hs, hG, goodS_set (j := 6) (by omega) hI (World.grownBy.refl _ _) ⟨t, rfl, htl⟩⟩
          · skip
            refine wpOp_step rfl (fun K hK => ?_)
            simp only [frS, e6, e7, e8, e9]
            go_simp
            refine hK _ _ ⟨updS us 52 (.int .i64 u), by simp [frS, updS, e6, e7, e8, e9], hF.upd (by decide) _, hs, hG, goodS_set (j := 7) (by omega) hI (World.grownBy.refl _ _) rfl⟩
          · have e45 : us 45 = .slice (some ⟨b, off, none⟩) ps.length d := hI 0 (by omega) (hall ⟨0, .data⟩ (by simp) rfl)
            refine wpOp_step rfl (fun K hK => ?_)
            simp only [frS, e6, e7, e8, e9, e45]
            go_simp
            refine hK _ _ ⟨updS us 2 (.slice (some ⟨b, off, none⟩) ps.length d), by simp [frS, updS, e6, e7, e8, e9, e45], hF.upd (by decide) _, hs, hG, goodS_set (j := 8) (by omega) hI (World.grownBy.refl _ _) rfl⟩
          · have e46 : us 46 = .string ⟨s.toArray⟩ := hI 1 (by omega) (hall ⟨1, .data⟩ (by simp) rfl)
            refine wpOp_step rfl (fun K hK => ?_)
            simp only [frS, e6, e7, e8, e9, e46]
            go_simp
            refine hK _ _ ⟨updS us 3 (.string ⟨s.toArray⟩), by simp [frS, updS, e6, e7, e8, e9, e46], hF.upd (by decide) _, hs, hG, goodS_set (j := 9) (by omega) hI (World.grownBy.refl _ _) rfl⟩
          · obtain ⟨t, e51, htl⟩ : ∃ t : List UInt8, us 51 = .string ⟨t.toArray⟩ ∧ t.length ≤ 7 := hI 6 (by omega) (hall ⟨6, .data⟩ (by simp) rfl)
            refine wpOp_step rfl (fun K hK => ?_)
            simp only [frS, e6, e7, e8, e9, e51]
            go_simp
            refine hK _ _ ⟨updS us 4 (.string ⟨t.toArray⟩), by simp [frS, updS, e6, e7, e8, e9, e51], hF.upd (by decide) _, hs, hG, goodS_set (j := 10) (by omega) hI (World.grownBy.refl _ _) ⟨t, rfl, htl⟩⟩
          · have e52 : us 52 = .int .i64 u := hI 7 (by omega) (hall ⟨7, .data⟩ (by simp) rfl)
            refine wpOp_step rfl (fun K hK => ?_)
            simp only [frS, e6, e7, e8, e9, e52]
            go_simp
            refine hK _ _ ⟨updS us 5 (.int .i64 u), by simp [frS, updS, e6, e7, e8, e9, e52], hF.upd (by decide) _, hs, hG, goodS_set (j := 11) (by omega) hI (World.grownBy.refl _ _) rfl⟩
        · rintro dd a W hsz2 hall ⟨us, rfl, hF, hs2, hG, hI⟩
          have hd : ∀ k, k < 12 → dd.getD k false = true := fun k hk => by
            have h9 := hall k (by simpa using hk)
            have : k < dd.size := by rw [hsz2]; simpa using hk
            simp [this] at h9 ⊢; exact h9
          have e2 : us 2 = .slice (some ⟨b, off, none⟩) ps.length d := hI 8 (by omega) (hd 8 (by omega))
          have e3 : us 3 = .string ⟨s.toArray⟩ := hI 9 (by omega) (hd 9 (by omega))
          obtain ⟨t, e4, htl⟩ : ∃ t : List UInt8, us 4 = .string ⟨t.toArray⟩ ∧ t.length ≤ 7 := hI 10 (by omega) (hd 10 (by omega))
          have e5 : us 5 = .int .i64 v := hI 11 (by omega) (hd 11 (by omega))
          have HP := Lib.hid (HPO_w6.out t v W htl hs2 hG)
          clear hall hsz2 hI hd hs2 hG
          simp only [frS, e2, e3, e4, e5]
          go_wp2_with fail
          refine bodyPost_ret (v := .tuple #[.slice (some ⟨b, off, none⟩) ps.length d, .string ⟨s.toArray⟩, .string ⟨t.toArray⟩, .int .i64 v]) (by simp [results, Try.results12, go_sem]) rfl ?_
          exact HP.out
    · go_wp2_with fail
      refine HFI.out.mono ?_
      rintro e w5 ⟨rfl, rfl⟩
      go_wp2_with (go_at_call 47; refine (amtS_qM ha _).mono ?_; rintro e w' ⟨rfl, rfl⟩)
      refine region_invA (by kernel_rfl) (by kernel_rfl) (RInvS w4 w.heap.size g A c bs (.slice (some ⟨b, off, none⟩) ps.length d) s v) ?_ ?_ ?_
      · exact ⟨_, frS_of, ⟨rfl, rfl, rfl, rfl⟩, s4, ⟨rfl, rfl, rfl, Nat.le_refl _, fun _ _ _ => rfl⟩, fun k hk hd => by rw [getD_repI] at hd; cases hd⟩
      · generalize v = u at *
        intro j dd a W hj hI
        obtain ⟨hun, oi, hoi, hall⟩ := mem_ready.1 hj
        have hj14 : j < 12 := (Array.getElem?_eq_some_iff.1 hoi).1
        obtain ⟨us, rfl, hF, hs, hG, hI⟩ := hI
        have e6 := hF.u6
        have e7 := hF.u7
        have e8 := hF.u8
        have e9 := hF.u9
        rcases (by omega : j = 0 ∨ j = 1 ∨ j = 2 ∨ j = 3 ∨ j = 4 ∨ j = 5 ∨ j = 6 ∨ j = 7 ∨ j = 8 ∨ j = 9 ∨ j = 10 ∨ j = 11) with rfl | rfl | rfl | rfl | rfl | rfl | rfl | rfl | rfl | rfl | rfl | rfl
        all_goals
          obtain rfl := Option.some.inj hoi
          clear hoi hj14 hj hun
        · skip
          refine wpOp_step rfl (fun K hK => ?_)
          simp only [frS, e6, e7, e8, e9]
          go_simp
          refine hK _ _ ⟨updS us 45 (.slice (some ⟨b, off, none⟩) ps.length d), by simp [frS, updS, e6, e7, e8, e9], hF.upd (by decide) _, hs, hG, goodS_set (j := 0) (by omega) hI (World.grownBy.refl _ _) rfl⟩
        · skip
          refine wpOp_step rfl (fun K hK => ?_)
          simp only [frS, e6, e7, e8, e9]
          go_simp
          refine hK _ _ ⟨updS us 46 (.string ⟨s.toArray⟩), by simp [frS, updS, e6, e7, e8, e9], hF.upd (by decide) _, hs, hG, goodS_set (j := 1) (by omega) hI (World.grownBy.refl _ _) rfl⟩
        · skip
          refine wpOp_step rfl (fun K hK => ?_)
          simp only [frS, e6, e7, e8, e9]
          go_simp
          refine hK _ _ ⟨updS us 47 (.slice (some ⟨W.heap.size, 0, none⟩) 5 5), by simp [frS, updS, e6, e7, e8, e9], hF.upd (by decide) _, (hs.alloc _), (hG.trans (World.grownBy_alloc _ _ _)), goodS_set (j := 2) (by omega) hI (World.grownBy_alloc _ _ _) ⟨_, rfl, heap_alloc_new W _, by have := hs.lt; omega⟩⟩
        · skip
          refine wpOp_step rfl (fun K hK => ?_)
          simp only [frS, e6, e7, e8, e9]
          go_simp
          refine hK _ _ ⟨updS us 48 (.pointer (some ⟨g, 0, none⟩)), by simp [frS, updS, e6, e7, e8, e9], hF.upd (by decide) _, hs, hG, goodS_set (j := 3) (by omega) hI (World.grownBy.refl _ _) rfl⟩
        · have e48 : us 48 = .pointer (some ⟨g, 0, none⟩) := hI 3 (by omega) (hall ⟨3, .data⟩ (by simp) rfl)
          refine wpOp_step rfl (fun K hK => ?_)
          simp only [frS, e6, e7, e8, e9, e48]
          go_simp
          go_wp2_with (go_at_call 48; refine (next_any g _ w.heap.size A c bs _ hs (by omega)).mono ?_; rintro e W2 ⟨r, rfl, r0, r1, hs2, hg2⟩)
          exact ⟨updS us 49 (.int .i64 r), by simp [frS, updS, e6, e7, e8, e9, e48], hF.upd (by decide) _, hs2, (hG.trans hg2), goodS_set (j := 4) (by omega) hI hg2 (by obtain ⟨m, rfl⟩ := Int.eq_ofNat_of_zero_le r0; exact ⟨m, by omega, rfl⟩)⟩
        · obtain ⟨B1, e47, hB, hBg⟩ : ∃ B, us 47 = .slice (some ⟨B, 0, none⟩) 5 5 ∧ Row5S W B ∧ B ≠ g := hI 2 (by omega) (hall ⟨2, .data⟩ (by simp) rfl)
          obtain ⟨r, hr, e49⟩ : ∃ r : Nat, r < 5 ∧ us 49 = .int .i64 r := hI 4 (by omega) (hall ⟨4, .data⟩ (by simp) rfl)
          refine wpOp_step rfl (fun K hK => ?_)
          simp only [frS, e6, e7, e8, e9, e47, e49]
          go_simp
          try (rw [if_pos (by omega)]; go_simp)
          refine hK _ _ ⟨updS us 50 (.pointer (some ⟨B1, r, none⟩)), by simp [frS, updS, e6, e7, e8, e9, e47, e49], hF.upd (by decide) _, hs, hG, goodS_set (j := 5) (by omega) hI (World.grownBy.refl _ _) ⟨B1, r, hr, rfl, hB, hBg⟩⟩
        · obtain ⟨B1, r, hr, e50, hB, hBg⟩ : ∃ B r : Nat, r < 5 ∧ us 50 = .pointer (some ⟨B, r, none⟩) ∧ Row5S W B ∧ B ≠ g := hI 5 (by omega) (hall ⟨5, .data⟩ (by simp) rfl)
          obtain ⟨t, htl, hv⟩ := text_atI (ts := tI5) (by decide) (k := r) hr
          have hcell : W.cell? ⟨B1, r, none⟩ = some (.string ⟨t.toArray⟩) := by rw [cell_of_row _ _ _ _ _ _ hB]; simpa using hv
          refine wpOp_step rfl (fun K hK => ?_)
          simp only [frS, e6, e7, e8, e9, e50]
          go_simp
          refine hK _ _ ⟨updS us 51 (.string ⟨t.toArray⟩), by simp [frS, updS, e6, e7, e8, e9, e50], hF.upd (by decide) _, hs, hG, goodS_set (j := 6) (by omega) hI (World.grownBy.refl _ _) ⟨t, rfl, htl⟩⟩
        · skip
          refine wpOp_step rfl (fun K hK => ?_)
          simp only [frS, e6, e7, e8, e9]
          go_simp
          refine hK _ _ ⟨updS us 52 (.int .i64 u), by simp [frS, updS, e6, e7, e8, e9], hF.upd (by decide) _, hs, hG, goodS_set (j := 7) (by omega) hI (World.grownBy.refl _ _) rfl⟩
        · have e45 : us 45 = .slice (some ⟨b, off, none⟩) ps.length d := hI 0 (by omega) (hall ⟨0, .data⟩ (by simp) rfl)
          refine wpOp_step rfl (fun K hK => ?_)
          simp only [frS, e6, e7, e8, e9, e45]
          go_simp
          refine hK _ _ ⟨updS us 2 (.slice (some ⟨b, off, none⟩) ps.length d), by simp [frS, updS, e6, e7, e8, e9, e45], hF.upd (by decide) _, hs, hG, goodS_set (j := 8) (by omega) hI (World.grownBy.refl _ _) rfl⟩
        · have e46 : us 46 = .string ⟨s.toArray⟩ := hI 1 (by omega) (hall ⟨1, .data⟩ (by simp) rfl)
          refine wpOp_step rfl (fun K hK => ?_)
          simp only [frS, e6, e7, e8, e9, e46]
          go_simp
          refine hK _ _ ⟨updS us 3 (.string ⟨s.toArray⟩), by simp [frS, updS, e6, e7, e8, e9, e46], hF.upd (by decide) _, hs, hG, goodS_set (j := 9) (by omega) hI (World.grownBy.refl _ _) rfl⟩
        · obtain ⟨t, e51, htl⟩ : ∃ t : List UInt8, us 51 = .string ⟨t.toArray⟩ ∧ t.length ≤ 7 := hI 6 (by omega) (hall ⟨6, .data⟩ (by simp) rfl)
          refine wpOp_step rfl (fun K hK => ?_)
          simp only [frS, e6, e7, e8, e9, e51]
          go_simp
          refine hK _ _ ⟨updS us 4 (.string ⟨t.toArray⟩), by simp [frS, updS, e6, e7, e8, e9, e51], hF.upd (by decide) _, hs, hG, goodS_set (j := 10) (by omega) hI (World.grownBy.refl _ _) ⟨t, rfl, htl⟩⟩
        · have e52 : us 52 = .int .i64 u := hI 7 (by omega) (hall ⟨7, .data⟩ (by simp) rfl)
          refine wpOp_step rfl (fun K hK => ?_)
          simp only [frS, e6, e7, e8, e9, e52]
          go_simp
          refine hK _ _ ⟨updS us 5 (.int .i64 u), by simp [frS, updS, e6, e7, e8, e9, e52], hF.upd (by decide) _, hs, hG, goodS_set (j := 11) (by omega) hI (World.grownBy.refl _ _) rfl⟩
      · rintro dd a W hsz2 hall ⟨us, rfl, hF, hs2, hG, hI⟩
        have hd : ∀ k, k < 12 → dd.getD k false = true := fun k hk => by
          have h9 := hall k (by simpa using hk)
          have : k < dd.size := by rw [hsz2]; simpa using hk
          simp [this] at h9 ⊢; exact h9
        have e2 : us 2 = .slice (some ⟨b, off, none⟩) ps.length d := hI 8 (by omega) (hd 8 (by omega))
        have e3 : us 3 = .string ⟨s.toArray⟩ := hI 9 (by omega) (hd 9 (by omega))
        obtain ⟨t, e4, htl⟩ : ∃ t : List UInt8, us 4 = .string ⟨t.toArray⟩ ∧ t.length ≤ 7 := hI 10 (by omega) (hd 10 (by omega))
        have e5 : us 5 = .int .i64 v := hI 11 (by omega) (hd 11 (by omega))
        have HP := Lib.hid (HPO_w4.out t v W htl hs2 hG)
        clear hall hsz2 hI hd hs2 hG
        simp only [frS, e2, e3, e4, e5]
        go_wp2_with fail
        refine bodyPost_ret (v := .tuple #[.slice (some ⟨b, off, none⟩) ps.length d, .string ⟨s.toArray⟩, .string ⟨t.toArray⟩, .int .i64 v]) (by simp [results, Try.results12, go_sem]) rfl ?_
        exact HP.out
end Go.Proofs.Ythainomgmgaikaa
