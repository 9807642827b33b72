import Derived.Test.YtjcklmhgjdmjoaaEvw
import Derived.Test.YtjcklmhgjdmjoaaMRate
import Derived.Test.YtjcklmhgjdmjoaaRin
import Derived.Maps.AppendAt
/- spec.AddEvent: its drawn region of three appends: frames, the condition on what has come up. -/
namespace Go.Proofs.Ytjcklmhgjdmjoaa
open Go.ChangeShapes Go.WideShapes Go.ChangeAt Go.RowKit
set_option linter.unusedVariables false

def frAE (us : Nat → Value) : Act := { tmps := #[us 0, us 1, us 2, us 3, us 4, us 5, us 6, us 7, us 8, us 9, us 10, us 11, us 12, us 13, us 14, us 15, us 16, us 17, us 18, us 19, us 20, us 21, us 22, us 23, us 24, us 25, us 26, us 27, us 28, us 29, us 30, us 31, us 32, us 33, us 34, us 35, us 36, us 37, us 38, us 39, us 40, us 41, us 42, us 43, us 44, us 45], defers := [] }
def updAE (us : Nat → Value) (j : Nat) (v : Value) : Nat → Value := fun n => if n = j then v else us n
theorem frA_ofE {x0 x1 x2 x3 x4 x5 x6 x7 x8 x9 x10 x11 x12 x13 x14 x15 x16 x17 x18 x19 x20 x21 x22 x23 x24 x25 x26 x27 x28 x29 x30 x31 x32 x33 x34 x35 x36 x37 x38 x39 x40 x41 x42 x43 x44 x45 : Value} : ({ tmps := #[x0, x1, x2, x3, x4, x5, x6, x7, x8, x9, x10, x11, x12, x13, x14, x15, x16, x17, x18, x19, x20, x21, x22, x23, x24, x25, x26, x27, x28, x29, x30, x31, x32, x33, x34, x35, x36, x37, x38, x39, x40, x41, x42, x43, x44, x45], defers := [] } : Act) = frAE (fun k => #[x0, x1, x2, x3, x4, x5, x6, x7, x8, x9, x10, x11, x12, x13, x14, x15, x16, x17, x18, x19, x20, x21, x22, x23, x24, x25, x26, x27, x28, x29, x30, x31, x32, x33, x34, x35, x36, x37, x38, x39, x40, x41, x42, x43, x44, x45].getD k undef) := rfl
theorem upd_sameE (us : Nat → Value) (j : Nat) (v : Value) : updAE us j v j = v := by unfold updAE; rw [if_pos rfl]
theorem upd_otherE {us : Nat → Value} {j n : Nat} {v : Value} (h : n ≠ j) : updAE us j v n = us n := by unfold updAE; rw [if_neg h]
theorem getD_set_sameE {d : Array Bool} {i : Nat} (h : d.getD i true = false) : (d.setIfInBounds i true).getD i false = true := by
  have hi : i < d.size := by
    rcases Nat.lt_or_ge i d.size with h1 | h1
    · exact h1
    · simp [Array.getElem?_eq_none h1] at h
  simp [hi]
theorem getD_tfE {d : Array Bool} {i : Nat} (h : d.getD i true = false) : d.getD i false = false := by
  have hi : i < d.size := by
    rcases Nat.lt_or_ge i d.size with h1 | h1
    · exact h1
    · simp [Array.getElem?_eq_none h1] at h
  simp [hi] at h ⊢; exact h
/-- The row at hand: what has been put together so far. -/
def RowAE (lo : Nat) (v : Value) (L : List Evt) (W : World) : Prop := ∃ O q, v = .slice O L.length q ∧ EvtO W lo O L.length q L
theorem RowAE.below {lo : Nat} {v : Value} {L : List Evt} {W W' : World} (h : RowAE lo v L W) (hb : Below W.heap.size W W') : RowAE lo v L W' := by
  obtain ⟨O, q, e, ho⟩ := h; exact ⟨O, q, e, ho.below hb⟩
theorem RowAE.lt {lo : Nat} {v : Value} {L : List Evt} {W : World} (h : RowAE lo v L W) {k : Nat} (hk : v.ownBlock = some k) : k < W.heap.size := by
  obtain ⟨O, q, rfl, ho⟩ := h; exact (World.ownsRow.lt ho k hk).2
/-- The party's own block. -/
def NewAE (lo : Nat) (v : Value) (x : Evt) (W : World) : Prop := ∃ B, v = .slice (some ⟨B, 0, none⟩) 1 1 ∧ W.heap[B]? = some (.cells #[.int .i64 x.d, .int .i64 x.k, .string ⟨x.c.toArray⟩, .int .i64 x.a, .bool x.p, .bool x.v, .bool x.r] 26 (0, 0)) ∧ lo ≤ B
theorem NewAE.below {lo : Nat} {v : Value} {x : Evt} {W W' : World} (h : NewAE lo v x W) (hb : Below W.heap.size W W') : NewAE lo v x W' := by
  obtain ⟨B, e, hB, hl⟩ := h; exact ⟨B, e, (hb.block B (lt_some hB)).trans hB, hl⟩
theorem NewAE.lt {lo : Nat} {v : Value} {x : Evt} {W : World} (h : NewAE lo v x W) {k : Nat} (hk : v.ownBlock = some k) : k < W.heap.size := by
  obtain ⟨B, rfl, hB, _⟩ := h; cases hk; exact lt_some hB
theorem NewAE.sep {lo : Nat} {u v : Value} {x : Evt} {W W' : World} (h : NewAE lo v x W) (hs : Sep u v) (hg : W.grownBy W' u.ownBlock) : NewAE lo v x W' := by
  obtain ⟨B, rfl, hB, hl⟩ := h
  refine ⟨B, rfl, ?_, hl⟩
  have := hg.block B (lt_some hB) (fun e => hs B e.symm rfl)
  rw [this]; exact hB
theorem NewAE.row {lo : Nat} {v : Value} {x : Evt} {W : World} (h : NewAE lo v x W) : ∃ B, v = .slice (some ⟨B, 0, none⟩) 1 1 ∧ EvtR W (some ⟨B, 0, none⟩) [x] := by
  obtain ⟨B, rfl, hB, _⟩ := h
  refine ⟨B, rfl, fun _ => ⟨B, 0, rfl, lt_some hB, fun j v hj => ?_⟩⟩
  rw [Nat.zero_add, cell_of_row _ _ _ _ _ _ hB]
  simpa [Evt.cells] using hj
theorem sep_appE {lo : Nat} {u u' v : Value} {x : Evt} {W : World} (h : NewAE lo v x W) (hs : Sep u v) (hu : u'.ownBlock = u.ownBlock ∨ u'.ownBlock = some W.heap.size) : Sep u' v := by
  intro k hk hv
  rcases hu with hu | hu
  · exact hs k (hu ▸ hk) hv
  · have := h.lt hv
    rw [hu] at hk; cases hk; omega
theorem sep_ltE {u : Value} {n B : Nat} (h : ∀ k, u.ownBlock = some k → k < B) : Sep u (.slice (some ⟨B, 0, none⟩) n n) := by
  intro k hk hv
  have := h k hk
  simp [Value.ownBlock] at hv; omega
theorem sep_gtE {v : Value} {n B : Nat} (h : ∀ k, v.ownBlock = some k → k < B) : Sep (.slice (some ⟨B, 0, none⟩) n n) v := by
  intro k hk hv
  have := h k hv
  simp [Value.ownBlock] at hk; omega

/-! ### append of a row of parties -/
theorem run_append_nilE {P : Program} (w : World) (t ty e : TypeId) (i : TypeInfo) (ht : P.underlying t = some (.slice e)) (hi : P.info? e = some i) (O : Option Addr) (n q c : Nat) (h : n ≤ q) :
    (Builtin.append_ #[t, t] ty #[.slice O n q, .slice none 0 c]).run P w = .ok (.slice O n q) w := by
  cases O <;> simp [Builtin.append_, run_underlying ht, sizeOf, typeInfo, hi, Builtin.lenOf, h, run_firstCells_none, storeCells]
theorem own_roomE {w : World} {base : Nat} {e : TypeId} {size n q : Nat} {O : Option Addr} {xs : List Value} (h : w.ownsRow base e size (.slice O n q) n xs) : n ≤ q := by
  rcases h.2 with ⟨h1, h2⟩ | ⟨g, cap, cur, h1, _, _, h4, _⟩
  · omega
  · injection h1 with _ _ h3; omega
set_option maxRecDepth 100000 in
theorem run_append_evt (W : World) (ty : TypeId) (lo : Nat) (v : Value) (L : List Evt) (hrow : RowAE lo v L W) (A : Option Addr) (c : Nat) (l : List Evt) (hR : EvtR W A l) (hA : A = none ∨ ∃ b off, A = some ⟨b, off, none⟩) (h63 : L.length + l.length ≤ 1000) (hbase : lo ≤ W.heap.size) :
    ∃ v' W', (Builtin.append_ #[34, 34] ty #[v, .slice A l.length c]).run Try.prog W = .ok v' W' ∧ RowAE lo v' (L ++ l) W' ∧ Below lo W W' ∧ W.grownBy W' v.ownBlock ∧ (v'.ownBlock = v.ownBlock ∨ v'.ownBlock = some W.heap.size) := by
  obtain ⟨i0, hi, hz0, hz1, hz2⟩ := info_parts evtInfo
  obtain ⟨O, q, rfl, hown⟩ := hrow
  rcases hA with rfl | ⟨b, off, rfl⟩
  · have hl : l = [] := by
      cases l with
      | nil => rfl
      | cons y l => obtain ⟨_, _, _, e, _⟩ := hR.at (k := 0) (by simp); cases e
    subst hl
    have hr := run_append_nilE (P := Try.prog) W 34 ty 26 i0 Try.underlying34 hi O L.length q c (own_roomE hown)
    exact ⟨_, _, hr, ⟨O, q, by simp, by simpa using hown⟩, Below.refl _ _, World.grownBy.refl _ _, .inl rfl⟩
  · obtain ⟨v', w', hr, h2, h3, h4, h5⟩ := run_append_own_at (P := Try.prog) W lo 34 ty 26 i0 _ 7 48 Try.underlying34 hi hz0 hz1 hz2 rfl (by decide) _ L.length _ hown ⟨b, off, none⟩ l.length c (l.flatMap Evt.cells) (flat_len Evt.cells 7 (fun _ => rfl) l)
      (fun j u hu => by
        have hp : 0 < (l.flatMap Evt.cells).length := by have := (List.getElem?_eq_some_iff.1 hu).1; omega
        obtain ⟨b', off', e, _, hc⟩ := hR hp
        simp only [Option.some.injEq, Addr.mk.injEq, and_true] at e
        obtain ⟨rfl, rfl⟩ := e
        rw [show ((⟨b, off, none⟩ : Addr).add j) = ⟨b, off + j, none⟩ from by unfold Addr.add; split <;> simp_all]
        exact hc j u hu)
      (fun u hu => by
        obtain ⟨y, _, hy⟩ := List.mem_flatMap.1 hu
        unfold Evt.cells at hy
        simp only [List.mem_cons, List.not_mem_nil, or_false] at hy
        rcases hy with rfl | rfl | rfl | rfl | rfl | rfl | rfl <;> simp [Value.oneCell'])
      (by unfold maxLen; omega) (by omega) hbase
    obtain ⟨O', q', rfl⟩ := own_form h2
    refine ⟨_, _, hr, ⟨O', q', by rw [List.length_append], ?_⟩, (Below.refl lo W).grown h3 hbase (fun k hk => (World.ownsRow.lt hown k hk).1), h3, h5⟩
    unfold EvtO
    rw [List.length_append, List.flatMap_append]
    exact h2
theorem wpOp_append_evt {ops : Array Oper} {Q : Exit → Act → World → Prop} {i : Nat} {o : Oper} {K : Act → World → Prop} {a : Act} {W : World} (hoi : ops[i]? = some o) (hgd : o.guard = none) (s y : Operand)
    (ho : o.op = .call { callee := .builtin .append, args := #[s, y], argTypes := #[34, 34] }) (lo : Nat) (v : Value) (L : List Evt) (hs : a.eval s = v) (hrow : RowAE lo v L W)
    (A : Option Addr) (c : Nat) (l : List Evt) (hy : a.eval y = .slice A l.length c) (hR : EvtR W A l) (hA : A = none ∨ ∃ b off, A = some ⟨b, off, none⟩) (h63 : L.length + l.length ≤ 1000) (hbase : lo ≤ W.heap.size)
    (h : ∀ v' W', RowAE lo v' (L ++ l) W' → Below lo W W' → W.grownBy W' v.ownBlock → (v'.ownBlock = v.ownBlock ∨ v'.ownBlock = some W.heap.size) → K (a.put o.dst v') W') : wpOp Try.prog ops Q i K a W := by
  refine wpOp_step hoi fun K' hK => ?_
  rw [if_pos (by simp only [Region.wanted, hgd])]
  obtain ⟨v', W', hr, h1, h2, h3, h4⟩ := run_append_evt W o.type lo v L hrow A c l hR hA h63 hbase
  unfold Oper.wp execOp
  simp only [ho, resolve, invoke, builtin, Sem.run_bind, Sem.run_pure, Result.andThen_ok, List.map_toArray, List.map_cons, List.map_nil, hs, hy, hr]
  exact hK _ _ (h v' W' h1 h2 h3 h4)
/-- The condition on which operations have come up. -/
structure InvAE (lo b0 n c at_ : Nat) (A : Option Addr) (S1 S3 : Value) (l1 l3 : List Evt) (x : Evt) (w : World) (d : Array Bool) (us : Nat → Value) (W : World) : Prop where
  u0 : us 0 = .slice A n c
  u3 : us 3 = .pointer (some ⟨b0, 0, none⟩)
  u6 : us 6 = .int .i64 at_
  bel : Below lo w W
  o1 : d.getD 1 false = true → us 35 = .slice A n c
  o2 : d.getD 2 false = true → us 36 = .int .i64 at_
  o3 : d.getD 3 false = true → us 37 = S1
  o5 : d.getD 5 false = true → us 39 = .agg #[.int .i64 x.d, .int .i64 x.k, .string ⟨x.c.toArray⟩, .int .i64 x.a, .bool x.p, .bool x.v, .bool x.r]
  o8 : d.getD 8 false = true → us 42 = .slice A n c
  o9 : d.getD 9 false = true → us 43 = .int .i64 at_
  o10 : d.getD 10 false = true → us 44 = S3
  o6 : d.getD 6 false = true → d.getD 7 false = false → NewAE lo (us 40) x W
  r0 : d.getD 0 false = true → d.getD 4 false = false → RowAE lo (us 34) [] W
  r4 : d.getD 4 false = true → d.getD 7 false = false → RowAE lo (us 38) l1 W
  r7 : d.getD 7 false = true → d.getD 11 false = false → RowAE lo (us 41) (l1 ++ [x]) W
  r11 : d.getD 11 false = true → RowAE lo (us 45) (l1 ++ [x] ++ l3) W
  s0 : d.getD 0 false = true → d.getD 4 false = false → d.getD 6 false = true → d.getD 7 false = false → Sep (us 34) (us 40)
  s4 : d.getD 4 false = true → d.getD 7 false = false → d.getD 6 false = true → Sep (us 38) (us 40)
  o12 : d.getD 12 false = true → us 4 = us 45 ∧ d.getD 11 false = true
  o13 : d.getD 13 false = true → us 5 = .int .i64 0
  i7 : d.getD 7 false = true → d.getD 4 false = true
  i11 : d.getD 11 false = true → d.getD 7 false = true
end Go.Proofs.Ytjcklmhgjdmjoaa

/- spec.AddEvent. (by gen_app8.py) -/
namespace Go.Proofs.Ytjcklmhgjdmjoaa
open Go.ChangeShapes Go.WideShapes Go.ChangeAt Go.RowKit
set_option linter.unusedVariables false

theorem EvtR.drop {w : World} {g off : Nat} {rs : List Evt} (h : EvtR w (some ⟨g, off, none⟩) rs) (k : Nat) : EvtR w (some ⟨g, off + k * 7, none⟩) (rs.drop k) := fun hp => by
  have hl := flat_len Evt.cells 7 (fun _ => rfl) rs
  have hl2 := flat_len Evt.cells 7 (fun _ => rfl) (rs.drop k)
  rw [List.length_drop] at hl2
  obtain ⟨b, o, e, hb, hcell⟩ := h (by omega)
  simp only [Option.some.injEq, Addr.mk.injEq, and_true] at e
  obtain ⟨rfl, rfl⟩ := e
  refine ⟨g, off + k * 7, rfl, hb, fun j v hj => ?_⟩
  have hsp : rs.flatMap Evt.cells = (rs.take k).flatMap Evt.cells ++ (rs.drop k).flatMap Evt.cells := by rw [← List.flatMap_append, List.take_append_drop]
  have hlt := flat_len Evt.cells 7 (fun _ => rfl) (rs.take k)
  rw [List.length_take, Nat.min_eq_left (by omega)] at hlt
  rw [Nat.add_assoc]
  refine hcell (k * 7 + j) v ?_
  rw [hsp, List.getElem?_append_right (by omega), hlt, Nat.add_sub_cancel_left]
  exact hj
theorem EvtR.take {w : World} {A : Option Addr} {rs : List Evt} (h : EvtR w A rs) (k : Nat) : EvtR w A (rs.take k) := fun hp => by
  have hsp : rs.flatMap Evt.cells = (rs.take k).flatMap Evt.cells ++ (rs.drop k).flatMap Evt.cells := by rw [← List.flatMap_append, List.take_append_drop]
  obtain ⟨b, o, e, hb, hcell⟩ := h (by rw [hsp, List.length_append]; omega)
  refine ⟨b, o, e, hb, fun j v hj => hcell j v ?_⟩
  rw [hsp, List.getElem?_append_left (List.getElem?_eq_some_iff.1 hj).1]; exact hj
theorem EvtR.none {w : World} {A : Option Addr} : EvtR w A [] := fun hp => absurd hp (by simp)
theorem addE_at {ps : List Evt} {x : Evt} {k : Nat} (hk : k ≤ ps.length) (hlo : ∀ (j : Nat) (q : Evt), j < k → ps[j]? = some q → q.d ≤ x.d) (hhi : ∀ q : Evt, ps[k]? = some q → x.d < q.d) : ps.take k ++ [x] ++ ps.drop k = addE ps x := by
  have : plcE ps x.d = k := plc_eqE hk hlo hhi
  unfold addE; rw [this]; simp

set_option maxRecDepth 100000 in
set_option maxHeartbeats 16000000 in
theorem adde_s_ok (A : Option Addr) (c : Nat) (ps : List Evt) (x : Evt) (w : World) (h : ETbl w A ps) (hA : (A = none ∧ c = 0) ∨ ∃ b off, A = some ⟨b, off, none⟩) (hcap : ps.length ≤ c) (hx : x.sz ≤ 1048600) (hr : logB ps = true) (hv : x.ok = true) (h15 : ps.length ≠ 15) :
    Calls Try.prog 155 #[.slice A ps.length c, .agg #[.int .i64 x.d, .int .i64 x.k, .string ⟨x.c.toArray⟩, .int .i64 x.a, .bool x.p, .bool x.v, .bool x.r]] w (NewEvtsC w (addR ps x)) := by
  have kb := KeepE.new w x
  have hxc := sz_e hx
  have HE := Lib.hid (addR_ok hr hv h15)
  have z15 : ((ps.length : Int) == 15) = false := beq_eq_false_iff_ne.2 (by omega)
  have h0 := h.below kb.bel
  have hn := (log_iff.1 hr).2
  have hst := h.txt
  have HT := Lib.hid (logS_q (c := c) h0 hr)
  have HV := Lib.hid (fun w => (evalid_s x w hxc))
  rw [hv] at HV
  go_enter Try.func155, Try.ntmps155
  go_wp2_with (first
    | (go_at_call 76; refine HT.out.mono ?_; rintro e w1 ⟨rfl, b1⟩; have kb1 := kb.step b1; have c0 := kb1.cells.c0; have c1 := kb1.cells.c1; have c2 := kb1.cells.c2; have c3 := kb1.cells.c3; have c4 := kb1.cells.c4; have c5 := kb1.cells.c5; have c6 := kb1.cells.c6)
    | (go_at_call 72; refine (HV.out _).mono ?_; rintro e w2 ⟨rfl, b2⟩; have kb2 := kb1.step b2))
  go_loopw [6] (fun i wr => ∃ k : Nat, k ≤ ps.length ∧ i = .int .i64 k ∧ Hid (∀ (j : Nat) (q : Evt), j < k → ps[j]? = some q → q.d ≤ x.d) ∧ KeepE w x wr) (fun i _ => ps.length - (intOf i).toNat)
  case atStart => exact ⟨0, Nat.zero_le _, rfl, Lib.hid (fun j q hj => by omega), kb2⟩
  case round =>
    obtain ⟨k, hk, rfl, hlo, hkeep⟩ := hrel
    have HK := Lib.hid (fun y : Sub (Bel wr) => hkeep.step y.h)
    by_cases hlt : k < ps.length
    · obtain ⟨g, off, p, rfl, hl, hp, h4⟩ := (h.row.below hkeep.bel).at hlt
      have p0 : ∀ y : Sub (Bel wr), y.w.cell? ⟨g, off + k * 7, none⟩ = some (.int .i64 p.d) := fun y => (h4.below hl y.h).c0
      have r0 : ∀ y : Sub (Bel wr), y.w.cell? ⟨w.heap.size, 0, none⟩ = some (.int .i64 x.d) := fun y => (hkeep.step y.h).cells.c0
      by_cases hbl : p.d ≤ x.d
      · have HN : Hid (∀ (j : Nat) (q : Evt), j < k + 1 → ps[j]? = some q → q.d ≤ x.d) := Lib.hid fun j q hj hq => by
          rcases Nat.lt_or_ge j k with h1 | h1
          · exact hlo.out j q h1 hq
          · obtain rfl : j = k := by omega
            rw [hp.out] at hq; rw [← Option.some.inj hq]; exact hbl
        have d0 : decide (p.d ≤ x.d) = true := decide_eq_true hbl
        clear hlo hp h4 h h0 HT HV hA
        go_wp2_with fail
        refine region_held (Bel wr) (by kernel_rfl) (by kernel_rfl) (Bel.drew wr) ?_
        repeat (go_big_quiet_step ((first | rfl)))
        refine wpQuiet_nil ?_
        rintro _ ⟨y2, rfl⟩
        go_wp2_with fail
        go_roundw
        case rel => exact ⟨k + 1, by omega, by go_num, HN, HK.out y2⟩
        case measure => simp [intOf]; omega
      · have hjoin : ps.take k ++ [x] ++ ps.drop k = addE ps x := addE_at hk hlo.out fun q hq => by rw [hp.out] at hq; rw [← Option.some.inj hq]; omega
        have d0 : decide (p.d ≤ x.d) = false := decide_eq_false hbl
        have HR := Lib.hid (fun y : Sub (Bel wr) => h.row.below (HK.out y).bel)
        clear HT HV hlo hp h4 h h0 hA
        go_wp2_with fail
        refine region_held (Bel wr) (by kernel_rfl) (by kernel_rfl) (Bel.drew wr) ?_
        repeat (go_big_quiet_step ((first | rfl)))
        refine wpQuiet_nil ?_
        rintro _ ⟨y2, rfl⟩
        go_wp2_with fail
        have hkq := HK.out y2
        have hRq := HR.out y2
        generalize y2.w = wq at *
        have q1 := hRq.take k
        have q3 := hRq.drop k
        have hbox := hkq.cells
        have hb0 : w.heap.size < wq.heap.size := lt_some hkq.a
        have e1 : k ≠ c := by omega
        have e1s : ¬ c = k := by omega
        have e2 : k < c := by omega
        have hl1 : ((ps.take k)).length = k := by rw [List.length_take]; omega
        have hl3 : ((ps.drop k)).length = (ps.length - k) := by rw [List.length_drop]
        refine region_inv (by kernel_rfl) (by kernel_rfl) (fun d a W => ∃ us, a = frAE us ∧ InvAE wq.heap.size (w.heap.size) (ps.length) (c) (k) (some ⟨g, off, none⟩) (.slice (some ⟨g, off, none⟩) k c) (.slice (some ⟨g, off + k * 7, none⟩) (ps.length - k) (c - k)) ((ps.take k)) ((ps.drop k)) x wq d us W) ?_ ?_ ?_
        · refine ⟨_, frA_ofE, ?_⟩
          have Z : ∀ k, (Array.replicate 14 false).getD k false = false := fun k => by
            rcases Nat.lt_or_ge k 14 with h | h
            · simp [h]
            · simp [Array.getElem?_eq_none, h]
          have Zn : ∀ {k : Nat} {p : Prop}, (Array.replicate 14 false).getD k false = true → p := fun {k p} h => by rw [Z k] at h; cases h
          exact { u0 := rfl, u3 := rfl, u6 := rfl, bel := (Below.refl _ _).drew, o1 := Zn, o2 := Zn, o3 := Zn, o5 := Zn, o8 := Zn, o9 := Zn, o10 := Zn, o6 := Zn, r0 := Zn, r4 := Zn, r7 := Zn, r11 := Zn, s0 := Zn, s4 := Zn, o12 := Zn, o13 := Zn, i7 := Zn, i11 := Zn }
        · intro i d a W hi hI
          obtain ⟨hun, oi, hoi, hall⟩ := mem_ready.1 hi
          have hlt : i < 14 := (Array.getElem?_eq_some_iff.1 hoi).1
          obtain ⟨us, rfl, I⟩ := hI
          have hsz : wq.heap.size ≤ W.heap.size := I.bel.size
          have e0 := I.u0
          have e3 := I.u3
          have e6 := I.u6
          rcases (by omega : i = 0 ∨ i = 1 ∨ i = 2 ∨ i = 3 ∨ i = 4 ∨ i = 5 ∨ i = 6 ∨ i = 7 ∨ i = 8 ∨ i = 9 ∨ i = 10 ∨ i = 11 ∨ i = 12 ∨ i = 13) with rfl | rfl | rfl | rfl | rfl | rfl | rfl | rfl | rfl | rfl | rfl | rfl | rfl | rfl
          all_goals
            obtain rfl := Option.some.inj hoi
            clear hoi hlt hi
          · skip
            have DO : ∀ n, 0 ≠ n → (d.setIfInBounds 0 true).getD n false = d.getD n false := fun n h => getD_set_ne false h
            have D0 : (d.setIfInBounds 0 true).getD 0 false = true := getD_set_sameE hun
            have D1 := DO 1 (by decide)
            have D2 := DO 2 (by decide)
            have D3 := DO 3 (by decide)
            have D4 := DO 4 (by decide)
            have D5 := DO 5 (by decide)
            have D6 := DO 6 (by decide)
            have D7 := DO 7 (by decide)
            have D8 := DO 8 (by decide)
            have D9 := DO 9 (by decide)
            have D10 := DO 10 (by decide)
            have D11 := DO 11 (by decide)
            have D12 := DO 12 (by decide)
            have D13 := DO 13 (by decide)
            have UO : ∀ n, n ≠ 34 → updAE us 34 (.slice (some ⟨W.heap.size, 0, none⟩) 0 0) n = us n := fun n h => upd_otherE h
            have U34 : updAE us 34 (.slice (some ⟨W.heap.size, 0, none⟩) 0 0) 34 = (.slice (some ⟨W.heap.size, 0, none⟩) 0 0) := upd_sameE _ _ _
            have U0 := UO 0 (by decide)
            have U3 := UO 3 (by decide)
            have U6 := UO 6 (by decide)
            have U4 := UO 4 (by decide)
            have U5 := UO 5 (by decide)
            have U35 := UO 35 (by decide)
            have U36 := UO 36 (by decide)
            have U37 := UO 37 (by decide)
            have U38 := UO 38 (by decide)
            have U39 := UO 39 (by decide)
            have U40 := UO 40 (by decide)
            have U41 := UO 41 (by decide)
            have U42 := UO 42 (by decide)
            have U43 := UO 43 (by decide)
            have U44 := UO 44 (by decide)
            have U45 := UO 45 (by decide)
            refine wpOp_step rfl (fun K hK => ?_)
            simp only [frAE, e0, e3, e6]
            go_simp
            refine hK _ _ ⟨updAE us 34 (.slice (some ⟨W.heap.size, 0, none⟩) 0 0), by simp [frAE, updAE, e0, e3, e6], { u0 := (U0.trans I.u0), u3 := (U3.trans I.u3), u6 := (U6.trans I.u6), bel := (I.bel.alloc hsz _), o1 := (fun h => U35.trans (I.o1 (D1.symm.trans h))), o2 := (fun h => U36.trans (I.o2 (D2.symm.trans h))), o3 := (fun h => U37.trans (I.o3 (D3.symm.trans h))), o5 := (fun h => U39.trans (I.o5 (D5.symm.trans h))), o8 := (fun h => U42.trans (I.o8 (D8.symm.trans h))), o9 := (fun h => U43.trans (I.o9 (D9.symm.trans h))), o10 := (fun h => U44.trans (I.o10 (D10.symm.trans h))), o13 := (fun h => U5.trans (I.o13 (D13.symm.trans h))), o6 := (fun h0 h1 => by rw [U40]; exact (I.o6 (D6.symm.trans h0) (D7.symm.trans h1)).below (below_alloc _ _)), r0 := (fun h0 h1 => by rw [U34]; exact ⟨_, _, rfl, made0e _ _ _ _ hsz⟩), r4 := (fun h0 h1 => by rw [U38]; exact (I.r4 (D4.symm.trans h0) (D7.symm.trans h1)).below (below_alloc _ _)), r7 := (fun h0 h1 => by rw [U41]; exact (I.r7 (D7.symm.trans h0) (D11.symm.trans h1)).below (below_alloc _ _)), r11 := (fun h0 => by rw [U45]; exact (I.r11 (D11.symm.trans h0)).below (below_alloc _ _)), s0 := (fun h0 h1 h2 h3 => by rw [U34, U40]; exact sep_gtE fun k hk => (I.o6 (D6.symm.trans h2) (D7.symm.trans h3)).lt hk), s4 := (fun h0 h1 h2 => by rw [U38, U40]; exact I.s4 (D4.symm.trans h0) (D7.symm.trans h1) (D6.symm.trans h2)), o12 := (fun h => by rw [U4, U45, D11]; exact I.o12 (D12.symm.trans h)), i7 := (fun h => D4.trans (I.i7 (D7.symm.trans h))), i11 := (fun h => D7.trans (I.i11 (D11.symm.trans h))) }⟩
          · skip
            have DO : ∀ n, 1 ≠ n → (d.setIfInBounds 1 true).getD n false = d.getD n false := fun n h => getD_set_ne false h
            have D1 : (d.setIfInBounds 1 true).getD 1 false = true := getD_set_sameE hun
            have D0 := DO 0 (by decide)
            have D2 := DO 2 (by decide)
            have D3 := DO 3 (by decide)
            have D4 := DO 4 (by decide)
            have D5 := DO 5 (by decide)
            have D6 := DO 6 (by decide)
            have D7 := DO 7 (by decide)
            have D8 := DO 8 (by decide)
            have D9 := DO 9 (by decide)
            have D10 := DO 10 (by decide)
            have D11 := DO 11 (by decide)
            have D12 := DO 12 (by decide)
            have D13 := DO 13 (by decide)
            have UO : ∀ n, n ≠ 35 → updAE us 35 (.slice (some ⟨g, off, none⟩) ps.length c) n = us n := fun n h => upd_otherE h
            have U35 : updAE us 35 (.slice (some ⟨g, off, none⟩) ps.length c) 35 = (.slice (some ⟨g, off, none⟩) ps.length c) := upd_sameE _ _ _
            have U0 := UO 0 (by decide)
            have U3 := UO 3 (by decide)
            have U6 := UO 6 (by decide)
            have U4 := UO 4 (by decide)
            have U5 := UO 5 (by decide)
            have U34 := UO 34 (by decide)
            have U36 := UO 36 (by decide)
            have U37 := UO 37 (by decide)
            have U38 := UO 38 (by decide)
            have U39 := UO 39 (by decide)
            have U40 := UO 40 (by decide)
            have U41 := UO 41 (by decide)
            have U42 := UO 42 (by decide)
            have U43 := UO 43 (by decide)
            have U44 := UO 44 (by decide)
            have U45 := UO 45 (by decide)
            refine wpOp_step rfl (fun K hK => ?_)
            simp only [frAE, e0, e3, e6]
            go_simp
            refine hK _ _ ⟨updAE us 35 (.slice (some ⟨g, off, none⟩) ps.length c), by simp [frAE, updAE, e0, e3, e6], { u0 := (U0.trans I.u0), u3 := (U3.trans I.u3), u6 := (U6.trans I.u6), bel := (I.bel), o1 := (fun _ => U35), o2 := (fun h => U36.trans (I.o2 (D2.symm.trans h))), o3 := (fun h => U37.trans (I.o3 (D3.symm.trans h))), o5 := (fun h => U39.trans (I.o5 (D5.symm.trans h))), o8 := (fun h => U42.trans (I.o8 (D8.symm.trans h))), o9 := (fun h => U43.trans (I.o9 (D9.symm.trans h))), o10 := (fun h => U44.trans (I.o10 (D10.symm.trans h))), o13 := (fun h => U5.trans (I.o13 (D13.symm.trans h))), o6 := (fun h0 h1 => by rw [U40]; exact I.o6 (D6.symm.trans h0) (D7.symm.trans h1)), r0 := (fun h0 h1 => by rw [U34]; exact I.r0 (D0.symm.trans h0) (D4.symm.trans h1)), r4 := (fun h0 h1 => by rw [U38]; exact I.r4 (D4.symm.trans h0) (D7.symm.trans h1)), r7 := (fun h0 h1 => by rw [U41]; exact I.r7 (D7.symm.trans h0) (D11.symm.trans h1)), r11 := (fun h0 => by rw [U45]; exact I.r11 (D11.symm.trans h0)), s0 := (fun h0 h1 h2 h3 => by rw [U34, U40]; exact I.s0 (D0.symm.trans h0) (D4.symm.trans h1) (D6.symm.trans h2) (D7.symm.trans h3)), s4 := (fun h0 h1 h2 => by rw [U38, U40]; exact I.s4 (D4.symm.trans h0) (D7.symm.trans h1) (D6.symm.trans h2)), o12 := (fun h => by rw [U4, U45, D11]; exact I.o12 (D12.symm.trans h)), i7 := (fun h => D4.trans (I.i7 (D7.symm.trans h))), i11 := (fun h => D7.trans (I.i11 (D11.symm.trans h))) }⟩
          · skip
            have DO : ∀ n, 2 ≠ n → (d.setIfInBounds 2 true).getD n false = d.getD n false := fun n h => getD_set_ne false h
            have D2 : (d.setIfInBounds 2 true).getD 2 false = true := getD_set_sameE hun
            have D0 := DO 0 (by decide)
            have D1 := DO 1 (by decide)
            have D3 := DO 3 (by decide)
            have D4 := DO 4 (by decide)
            have D5 := DO 5 (by decide)
            have D6 := DO 6 (by decide)
            have D7 := DO 7 (by decide)
            have D8 := DO 8 (by decide)
            have D9 := DO 9 (by decide)
            have D10 := DO 10 (by decide)
            have D11 := DO 11 (by decide)
            have D12 := DO 12 (by decide)
            have D13 := DO 13 (by decide)
            have UO : ∀ n, n ≠ 36 → updAE us 36 (.int .i64 ((k : Nat) : Int)) n = us n := fun n h => upd_otherE h
            have U36 : updAE us 36 (.int .i64 ((k : Nat) : Int)) 36 = (.int .i64 ((k : Nat) : Int)) := upd_sameE _ _ _
            have U0 := UO 0 (by decide)
            have U3 := UO 3 (by decide)
            have U6 := UO 6 (by decide)
            have U4 := UO 4 (by decide)
            have U5 := UO 5 (by decide)
            have U34 := UO 34 (by decide)
            have U35 := UO 35 (by decide)
            have U37 := UO 37 (by decide)
            have U38 := UO 38 (by decide)
            have U39 := UO 39 (by decide)
            have U40 := UO 40 (by decide)
            have U41 := UO 41 (by decide)
            have U42 := UO 42 (by decide)
            have U43 := UO 43 (by decide)
            have U44 := UO 44 (by decide)
            have U45 := UO 45 (by decide)
            refine wpOp_step rfl (fun K hK => ?_)
            simp only [frAE, e0, e3, e6]
            go_simp
            refine hK _ _ ⟨updAE us 36 (.int .i64 ((k : Nat) : Int)), by simp [frAE, updAE, e0, e3, e6], { u0 := (U0.trans I.u0), u3 := (U3.trans I.u3), u6 := (U6.trans I.u6), bel := (I.bel), o1 := (fun h => U35.trans (I.o1 (D1.symm.trans h))), o2 := (fun _ => U36), o3 := (fun h => U37.trans (I.o3 (D3.symm.trans h))), o5 := (fun h => U39.trans (I.o5 (D5.symm.trans h))), o8 := (fun h => U42.trans (I.o8 (D8.symm.trans h))), o9 := (fun h => U43.trans (I.o9 (D9.symm.trans h))), o10 := (fun h => U44.trans (I.o10 (D10.symm.trans h))), o13 := (fun h => U5.trans (I.o13 (D13.symm.trans h))), o6 := (fun h0 h1 => by rw [U40]; exact I.o6 (D6.symm.trans h0) (D7.symm.trans h1)), r0 := (fun h0 h1 => by rw [U34]; exact I.r0 (D0.symm.trans h0) (D4.symm.trans h1)), r4 := (fun h0 h1 => by rw [U38]; exact I.r4 (D4.symm.trans h0) (D7.symm.trans h1)), r7 := (fun h0 h1 => by rw [U41]; exact I.r7 (D7.symm.trans h0) (D11.symm.trans h1)), r11 := (fun h0 => by rw [U45]; exact I.r11 (D11.symm.trans h0)), s0 := (fun h0 h1 h2 h3 => by rw [U34, U40]; exact I.s0 (D0.symm.trans h0) (D4.symm.trans h1) (D6.symm.trans h2) (D7.symm.trans h3)), s4 := (fun h0 h1 h2 => by rw [U38, U40]; exact I.s4 (D4.symm.trans h0) (D7.symm.trans h1) (D6.symm.trans h2)), o12 := (fun h => by rw [U4, U45, D11]; exact I.o12 (D12.symm.trans h)), i7 := (fun h => D4.trans (I.i7 (D7.symm.trans h))), i11 := (fun h => D7.trans (I.i11 (D11.symm.trans h))) }⟩
          · skip
            have DO : ∀ n, 3 ≠ n → (d.setIfInBounds 3 true).getD n false = d.getD n false := fun n h => getD_set_ne false h
            have D3 : (d.setIfInBounds 3 true).getD 3 false = true := getD_set_sameE hun
            have D0 := DO 0 (by decide)
            have D1 := DO 1 (by decide)
            have D2 := DO 2 (by decide)
            have D4 := DO 4 (by decide)
            have D5 := DO 5 (by decide)
            have D6 := DO 6 (by decide)
            have D7 := DO 7 (by decide)
            have D8 := DO 8 (by decide)
            have D9 := DO 9 (by decide)
            have D10 := DO 10 (by decide)
            have D11 := DO 11 (by decide)
            have D12 := DO 12 (by decide)
            have D13 := DO 13 (by decide)
            have e35 := I.o1 (hall ⟨1, .data⟩ (by simp) rfl)
            have e36 := I.o2 (hall ⟨2, .data⟩ (by simp) rfl)
            have UO : ∀ n, n ≠ 37 → updAE us 37 (.slice (some ⟨g, off, none⟩) k c) n = us n := fun n h => upd_otherE h
            have U37 : updAE us 37 (.slice (some ⟨g, off, none⟩) k c) 37 = (.slice (some ⟨g, off, none⟩) k c) := upd_sameE _ _ _
            have U0 := UO 0 (by decide)
            have U3 := UO 3 (by decide)
            have U6 := UO 6 (by decide)
            have U4 := UO 4 (by decide)
            have U5 := UO 5 (by decide)
            have U34 := UO 34 (by decide)
            have U35 := UO 35 (by decide)
            have U36 := UO 36 (by decide)
            have U38 := UO 38 (by decide)
            have U39 := UO 39 (by decide)
            have U40 := UO 40 (by decide)
            have U41 := UO 41 (by decide)
            have U42 := UO 42 (by decide)
            have U43 := UO 43 (by decide)
            have U44 := UO 44 (by decide)
            have U45 := UO 45 (by decide)
            refine wpOp_step rfl (fun K hK => ?_)
            simp only [frAE, e0, e3, e6, e35, e36]
            go_simp
            try (rw [if_pos (by omega)]; go_simp)
            refine hK _ _ ⟨updAE us 37 (.slice (some ⟨g, off, none⟩) k c), by simp [frAE, updAE, e0, e3, e6, e35, e36], { u0 := (U0.trans I.u0), u3 := (U3.trans I.u3), u6 := (U6.trans I.u6), bel := (I.bel), o1 := (fun h => U35.trans (I.o1 (D1.symm.trans h))), o2 := (fun h => U36.trans (I.o2 (D2.symm.trans h))), o3 := (fun _ => U37), o5 := (fun h => U39.trans (I.o5 (D5.symm.trans h))), o8 := (fun h => U42.trans (I.o8 (D8.symm.trans h))), o9 := (fun h => U43.trans (I.o9 (D9.symm.trans h))), o10 := (fun h => U44.trans (I.o10 (D10.symm.trans h))), o13 := (fun h => U5.trans (I.o13 (D13.symm.trans h))), o6 := (fun h0 h1 => by rw [U40]; exact I.o6 (D6.symm.trans h0) (D7.symm.trans h1)), r0 := (fun h0 h1 => by rw [U34]; exact I.r0 (D0.symm.trans h0) (D4.symm.trans h1)), r4 := (fun h0 h1 => by rw [U38]; exact I.r4 (D4.symm.trans h0) (D7.symm.trans h1)), r7 := (fun h0 h1 => by rw [U41]; exact I.r7 (D7.symm.trans h0) (D11.symm.trans h1)), r11 := (fun h0 => by rw [U45]; exact I.r11 (D11.symm.trans h0)), s0 := (fun h0 h1 h2 h3 => by rw [U34, U40]; exact I.s0 (D0.symm.trans h0) (D4.symm.trans h1) (D6.symm.trans h2) (D7.symm.trans h3)), s4 := (fun h0 h1 h2 => by rw [U38, U40]; exact I.s4 (D4.symm.trans h0) (D7.symm.trans h1) (D6.symm.trans h2)), o12 := (fun h => by rw [U4, U45, D11]; exact I.o12 (D12.symm.trans h)), i7 := (fun h => D4.trans (I.i7 (D7.symm.trans h))), i11 := (fun h => D7.trans (I.i11 (D11.symm.trans h))) }⟩
          · skip
            have DO : ∀ n, 4 ≠ n → (d.setIfInBounds 4 true).getD n false = d.getD n false := fun n h => getD_set_ne false h
            have D4 : (d.setIfInBounds 4 true).getD 4 false = true := getD_set_sameE hun
            have D0 := DO 0 (by decide)
            have D1 := DO 1 (by decide)
            have D2 := DO 2 (by decide)
            have D3 := DO 3 (by decide)
            have D5 := DO 5 (by decide)
            have D6 := DO 6 (by decide)
            have D7 := DO 7 (by decide)
            have D8 := DO 8 (by decide)
            have D9 := DO 9 (by decide)
            have D10 := DO 10 (by decide)
            have D11 := DO 11 (by decide)
            have D12 := DO 12 (by decide)
            have D13 := DO 13 (by decide)
            have e37 := I.o3 (hall ⟨3, .data⟩ (by simp) rfl)
            have h00 := hall ⟨0, .data⟩ (by simp) rfl
            have hRow := I.r0 (hall ⟨0, .data⟩ (by simp) rfl) (getD_tfE hun)
            refine wpOp_append_evt rfl rfl (.tmp 34) (.tmp 37) rfl wq.heap.size (us 34) [] rfl hRow (some ⟨g, off, none⟩) (c) ((ps.take k)) (by show us 37 = _; rw [e37] <;> simp [hl1]) (q1.below I.bel) (.inr ⟨_, _, rfl⟩) (by simp [hl1, hl3] <;> omega) hsz ?_
            intro v W2 hR2 hB hg hv
            have UO : ∀ n, n ≠ 38 → updAE us 38 (v) n = us n := fun n h => upd_otherE h
            have U38 : updAE us 38 (v) 38 = (v) := upd_sameE _ _ _
            have U0 := UO 0 (by decide)
            have U3 := UO 3 (by decide)
            have U6 := UO 6 (by decide)
            have U4 := UO 4 (by decide)
            have U5 := UO 5 (by decide)
            have U34 := UO 34 (by decide)
            have U35 := UO 35 (by decide)
            have U36 := UO 36 (by decide)
            have U37 := UO 37 (by decide)
            have U39 := UO 39 (by decide)
            have U40 := UO 40 (by decide)
            have U41 := UO 41 (by decide)
            have U42 := UO 42 (by decide)
            have U43 := UO 43 (by decide)
            have U44 := UO 44 (by decide)
            have U45 := UO 45 (by decide)
            refine ⟨updAE us 38 v, by simp [frAE, updAE, Act.put], { u0 := (U0.trans I.u0), u3 := (U3.trans I.u3), u6 := (U6.trans I.u6), bel := (I.bel.trans hB), o1 := (fun h => U35.trans (I.o1 (D1.symm.trans h))), o2 := (fun h => U36.trans (I.o2 (D2.symm.trans h))), o3 := (fun h => U37.trans (I.o3 (D3.symm.trans h))), o5 := (fun h => U39.trans (I.o5 (D5.symm.trans h))), o8 := (fun h => U42.trans (I.o8 (D8.symm.trans h))), o9 := (fun h => U43.trans (I.o9 (D9.symm.trans h))), o10 := (fun h => U44.trans (I.o10 (D10.symm.trans h))), o13 := (fun h => U5.trans (I.o13 (D13.symm.trans h))), o6 := (fun h0 h1 => by rw [U40]; exact (I.o6 (D6.symm.trans h0) (D7.symm.trans h1)).sep (I.s0 h00 (getD_tfE hun) (D6.symm.trans h0) (D7.symm.trans h1)) hg), r0 := (fun h0 h1 => by rw [D4] at h1; cases h1), r4 := (fun _ _ => by rw [U38]; simpa using hR2), r7 := (fun h0 h1 => absurd (I.i7 (D7.symm.trans h0)) (by rw [getD_tfE hun]; exact Bool.false_ne_true)), r11 := (fun h0 => absurd (I.i7 (I.i11 (D11.symm.trans h0))) (by rw [getD_tfE hun]; exact Bool.false_ne_true)), s0 := (fun h0 h1 h2 h3 => by rw [D4] at h1; cases h1), s4 := (fun h0 h1 h2 => by rw [U38, U40]; exact sep_appE (I.o6 (D6.symm.trans h2) (D7.symm.trans h1)) (I.s0 h00 (getD_tfE hun) (D6.symm.trans h2) (D7.symm.trans h1)) hv), o12 := (fun h => by rw [U4, U45, D11]; exact I.o12 (D12.symm.trans h)), i7 := (fun _ => D4), i11 := (fun h => D7.trans (I.i11 (D11.symm.trans h))) }⟩
          · skip
            have DO : ∀ n, 5 ≠ n → (d.setIfInBounds 5 true).getD n false = d.getD n false := fun n h => getD_set_ne false h
            have D5 : (d.setIfInBounds 5 true).getD 5 false = true := getD_set_sameE hun
            have D0 := DO 0 (by decide)
            have D1 := DO 1 (by decide)
            have D2 := DO 2 (by decide)
            have D3 := DO 3 (by decide)
            have D4 := DO 4 (by decide)
            have D6 := DO 6 (by decide)
            have D7 := DO 7 (by decide)
            have D8 := DO 8 (by decide)
            have D9 := DO 9 (by decide)
            have D10 := DO 10 (by decide)
            have D11 := DO 11 (by decide)
            have D12 := DO 12 (by decide)
            have D13 := DO 13 (by decide)
            have hbx := hbox.belowB hb0 I.bel
            have c0 := hbx.c0
            have c1 := hbx.c1
            have c2 := hbx.c2
            have c3 := hbx.c3
            have c4 := hbx.c4
            have c5 := hbx.c5
            have c6 := hbx.c6
            have UO : ∀ n, n ≠ 39 → updAE us 39 (.agg #[.int .i64 x.d, .int .i64 x.k, .string ⟨x.c.toArray⟩, .int .i64 x.a, .bool x.p, .bool x.v, .bool x.r]) n = us n := fun n h => upd_otherE h
            have U39 : updAE us 39 (.agg #[.int .i64 x.d, .int .i64 x.k, .string ⟨x.c.toArray⟩, .int .i64 x.a, .bool x.p, .bool x.v, .bool x.r]) 39 = (.agg #[.int .i64 x.d, .int .i64 x.k, .string ⟨x.c.toArray⟩, .int .i64 x.a, .bool x.p, .bool x.v, .bool x.r]) := upd_sameE _ _ _
            have U0 := UO 0 (by decide)
            have U3 := UO 3 (by decide)
            have U6 := UO 6 (by decide)
            have U4 := UO 4 (by decide)
            have U5 := UO 5 (by decide)
            have U34 := UO 34 (by decide)
            have U35 := UO 35 (by decide)
            have U36 := UO 36 (by decide)
            have U37 := UO 37 (by decide)
            have U38 := UO 38 (by decide)
            have U40 := UO 40 (by decide)
            have U41 := UO 41 (by decide)
            have U42 := UO 42 (by decide)
            have U43 := UO 43 (by decide)
            have U44 := UO 44 (by decide)
            have U45 := UO 45 (by decide)
            refine wpOp_step rfl (fun K hK => ?_)
            simp only [frAE, e0, e3, e6, c0, c1, c2, c3, c4, c5, c6]
            go_simp
            refine hK _ _ ⟨updAE us 39 (.agg #[.int .i64 x.d, .int .i64 x.k, .string ⟨x.c.toArray⟩, .int .i64 x.a, .bool x.p, .bool x.v, .bool x.r]), by simp [frAE, updAE, e0, e3, e6, c0, c1, c2, c3, c4, c5, c6], { u0 := (U0.trans I.u0), u3 := (U3.trans I.u3), u6 := (U6.trans I.u6), bel := (I.bel), o1 := (fun h => U35.trans (I.o1 (D1.symm.trans h))), o2 := (fun h => U36.trans (I.o2 (D2.symm.trans h))), o3 := (fun h => U37.trans (I.o3 (D3.symm.trans h))), o5 := (fun _ => U39), o8 := (fun h => U42.trans (I.o8 (D8.symm.trans h))), o9 := (fun h => U43.trans (I.o9 (D9.symm.trans h))), o10 := (fun h => U44.trans (I.o10 (D10.symm.trans h))), o13 := (fun h => U5.trans (I.o13 (D13.symm.trans h))), o6 := (fun h0 h1 => by rw [U40]; exact I.o6 (D6.symm.trans h0) (D7.symm.trans h1)), r0 := (fun h0 h1 => by rw [U34]; exact I.r0 (D0.symm.trans h0) (D4.symm.trans h1)), r4 := (fun h0 h1 => by rw [U38]; exact I.r4 (D4.symm.trans h0) (D7.symm.trans h1)), r7 := (fun h0 h1 => by rw [U41]; exact I.r7 (D7.symm.trans h0) (D11.symm.trans h1)), r11 := (fun h0 => by rw [U45]; exact I.r11 (D11.symm.trans h0)), s0 := (fun h0 h1 h2 h3 => by rw [U34, U40]; exact I.s0 (D0.symm.trans h0) (D4.symm.trans h1) (D6.symm.trans h2) (D7.symm.trans h3)), s4 := (fun h0 h1 h2 => by rw [U38, U40]; exact I.s4 (D4.symm.trans h0) (D7.symm.trans h1) (D6.symm.trans h2)), o12 := (fun h => by rw [U4, U45, D11]; exact I.o12 (D12.symm.trans h)), i7 := (fun h => D4.trans (I.i7 (D7.symm.trans h))), i11 := (fun h => D7.trans (I.i11 (D11.symm.trans h))) }⟩
          · skip
            have DO : ∀ n, 6 ≠ n → (d.setIfInBounds 6 true).getD n false = d.getD n false := fun n h => getD_set_ne false h
            have D6 : (d.setIfInBounds 6 true).getD 6 false = true := getD_set_sameE hun
            have D0 := DO 0 (by decide)
            have D1 := DO 1 (by decide)
            have D2 := DO 2 (by decide)
            have D3 := DO 3 (by decide)
            have D4 := DO 4 (by decide)
            have D5 := DO 5 (by decide)
            have D7 := DO 7 (by decide)
            have D8 := DO 8 (by decide)
            have D9 := DO 9 (by decide)
            have D10 := DO 10 (by decide)
            have D11 := DO 11 (by decide)
            have D12 := DO 12 (by decide)
            have D13 := DO 13 (by decide)
            have e39 := I.o5 (hall ⟨5, .data⟩ (by simp) rfl)
            have UO : ∀ n, n ≠ 40 → updAE us 40 (.slice (some ⟨W.heap.size, 0, none⟩) 1 1) n = us n := fun n h => upd_otherE h
            have U40 : updAE us 40 (.slice (some ⟨W.heap.size, 0, none⟩) 1 1) 40 = (.slice (some ⟨W.heap.size, 0, none⟩) 1 1) := upd_sameE _ _ _
            have U0 := UO 0 (by decide)
            have U3 := UO 3 (by decide)
            have U6 := UO 6 (by decide)
            have U4 := UO 4 (by decide)
            have U5 := UO 5 (by decide)
            have U34 := UO 34 (by decide)
            have U35 := UO 35 (by decide)
            have U36 := UO 36 (by decide)
            have U37 := UO 37 (by decide)
            have U38 := UO 38 (by decide)
            have U39 := UO 39 (by decide)
            have U41 := UO 41 (by decide)
            have U42 := UO 42 (by decide)
            have U43 := UO 43 (by decide)
            have U44 := UO 44 (by decide)
            have U45 := UO 45 (by decide)
            refine wpOp_step rfl (fun K hK => ?_)
            simp only [frAE, e0, e3, e6, e39]
            go_simp
            refine hK _ _ ⟨updAE us 40 (.slice (some ⟨W.heap.size, 0, none⟩) 1 1), by simp [frAE, updAE, e0, e3, e6, e39], { u0 := (U0.trans I.u0), u3 := (U3.trans I.u3), u6 := (U6.trans I.u6), bel := (I.bel.alloc hsz _), o1 := (fun h => U35.trans (I.o1 (D1.symm.trans h))), o2 := (fun h => U36.trans (I.o2 (D2.symm.trans h))), o3 := (fun h => U37.trans (I.o3 (D3.symm.trans h))), o5 := (fun h => U39.trans (I.o5 (D5.symm.trans h))), o8 := (fun h => U42.trans (I.o8 (D8.symm.trans h))), o9 := (fun h => U43.trans (I.o9 (D9.symm.trans h))), o10 := (fun h => U44.trans (I.o10 (D10.symm.trans h))), o13 := (fun h => U5.trans (I.o13 (D13.symm.trans h))), o6 := (fun _ _ => by rw [U40]; exact ⟨_, rfl, heap_alloc_new W _, hsz⟩), r0 := (fun h0 h1 => by rw [U34]; exact (I.r0 (D0.symm.trans h0) (D4.symm.trans h1)).below (below_alloc _ _)), r4 := (fun h0 h1 => by rw [U38]; exact (I.r4 (D4.symm.trans h0) (D7.symm.trans h1)).below (below_alloc _ _)), r7 := (fun h0 h1 => by rw [U41]; exact (I.r7 (D7.symm.trans h0) (D11.symm.trans h1)).below (below_alloc _ _)), r11 := (fun h0 => by rw [U45]; exact (I.r11 (D11.symm.trans h0)).below (below_alloc _ _)), s0 := (fun h0 h1 h2 h3 => by rw [U34, U40]; exact sep_ltE fun k hk => (I.r0 (D0.symm.trans h0) (D4.symm.trans h1)).lt hk), s4 := (fun h0 h1 h2 => by rw [U38, U40]; exact sep_ltE fun k hk => (I.r4 (D4.symm.trans h0) (D7.symm.trans h1)).lt hk), o12 := (fun h => by rw [U4, U45, D11]; exact I.o12 (D12.symm.trans h)), i7 := (fun h => D4.trans (I.i7 (D7.symm.trans h))), i11 := (fun h => D7.trans (I.i11 (D11.symm.trans h))) }⟩
          · skip
            have DO : ∀ n, 7 ≠ n → (d.setIfInBounds 7 true).getD n false = d.getD n false := fun n h => getD_set_ne false h
            have D7 : (d.setIfInBounds 7 true).getD 7 false = true := getD_set_sameE hun
            have D0 := DO 0 (by decide)
            have D1 := DO 1 (by decide)
            have D2 := DO 2 (by decide)
            have D3 := DO 3 (by decide)
            have D4 := DO 4 (by decide)
            have D5 := DO 5 (by decide)
            have D6 := DO 6 (by decide)
            have D8 := DO 8 (by decide)
            have D9 := DO 9 (by decide)
            have D10 := DO 10 (by decide)
            have D11 := DO 11 (by decide)
            have D12 := DO 12 (by decide)
            have D13 := DO 13 (by decide)
            have h44 := hall ⟨4, .data⟩ (by simp) rfl
            obtain ⟨B, e40, hRB⟩ := (I.o6 (hall ⟨6, .data⟩ (by simp) rfl) (getD_tfE hun)).row
            have hRow := I.r4 (hall ⟨4, .data⟩ (by simp) rfl) (getD_tfE hun)
            refine wpOp_append_evt rfl rfl (.tmp 38) (.tmp 40) rfl wq.heap.size (us 38) ((ps.take k)) rfl hRow (some ⟨B, 0, none⟩) 1 [x] e40 hRB (.inr ⟨_, _, rfl⟩) (by simp [hl1, hl3] <;> omega) hsz ?_
            intro v W2 hR2 hB hg hv
            have UO : ∀ n, n ≠ 41 → updAE us 41 (v) n = us n := fun n h => upd_otherE h
            have U41 : updAE us 41 (v) 41 = (v) := upd_sameE _ _ _
            have U0 := UO 0 (by decide)
            have U3 := UO 3 (by decide)
            have U6 := UO 6 (by decide)
            have U4 := UO 4 (by decide)
            have U5 := UO 5 (by decide)
            have U34 := UO 34 (by decide)
            have U35 := UO 35 (by decide)
            have U36 := UO 36 (by decide)
            have U37 := UO 37 (by decide)
            have U38 := UO 38 (by decide)
            have U39 := UO 39 (by decide)
            have U40 := UO 40 (by decide)
            have U42 := UO 42 (by decide)
            have U43 := UO 43 (by decide)
            have U44 := UO 44 (by decide)
            have U45 := UO 45 (by decide)
            refine ⟨updAE us 41 v, by simp [frAE, updAE, Act.put], { u0 := (U0.trans I.u0), u3 := (U3.trans I.u3), u6 := (U6.trans I.u6), bel := (I.bel.trans hB), o1 := (fun h => U35.trans (I.o1 (D1.symm.trans h))), o2 := (fun h => U36.trans (I.o2 (D2.symm.trans h))), o3 := (fun h => U37.trans (I.o3 (D3.symm.trans h))), o5 := (fun h => U39.trans (I.o5 (D5.symm.trans h))), o8 := (fun h => U42.trans (I.o8 (D8.symm.trans h))), o9 := (fun h => U43.trans (I.o9 (D9.symm.trans h))), o10 := (fun h => U44.trans (I.o10 (D10.symm.trans h))), o13 := (fun h => U5.trans (I.o13 (D13.symm.trans h))), o6 := (fun h0 h1 => by rw [D7] at h1; cases h1), r0 := (fun h0 h1 => absurd h44 (by rw [D4.symm.trans h1]; exact Bool.false_ne_true)), r4 := (fun h0 h1 => by rw [D7] at h1; cases h1), r7 := (fun _ _ => by rw [U41]; exact hR2), r11 := (fun h0 => absurd (I.i11 (D11.symm.trans h0)) (by rw [getD_tfE hun]; exact Bool.false_ne_true)), s0 := (fun h0 h1 h2 h3 => by rw [D7] at h3; cases h3), s4 := (fun h0 h1 h2 => by rw [D7] at h1; cases h1), o12 := (fun h => by rw [U4, U45, D11]; exact I.o12 (D12.symm.trans h)), i7 := (fun _ => D4.trans h44), i11 := (fun _ => D7) }⟩
          · skip
            have DO : ∀ n, 8 ≠ n → (d.setIfInBounds 8 true).getD n false = d.getD n false := fun n h => getD_set_ne false h
            have D8 : (d.setIfInBounds 8 true).getD 8 false = true := getD_set_sameE hun
            have D0 := DO 0 (by decide)
            have D1 := DO 1 (by decide)
            have D2 := DO 2 (by decide)
            have D3 := DO 3 (by decide)
            have D4 := DO 4 (by decide)
            have D5 := DO 5 (by decide)
            have D6 := DO 6 (by decide)
            have D7 := DO 7 (by decide)
            have D9 := DO 9 (by decide)
            have D10 := DO 10 (by decide)
            have D11 := DO 11 (by decide)
            have D12 := DO 12 (by decide)
            have D13 := DO 13 (by decide)
            have UO : ∀ n, n ≠ 42 → updAE us 42 (.slice (some ⟨g, off, none⟩) ps.length c) n = us n := fun n h => upd_otherE h
            have U42 : updAE us 42 (.slice (some ⟨g, off, none⟩) ps.length c) 42 = (.slice (some ⟨g, off, none⟩) ps.length c) := upd_sameE _ _ _
            have U0 := UO 0 (by decide)
            have U3 := UO 3 (by decide)
            have U6 := UO 6 (by decide)
            have U4 := UO 4 (by decide)
            have U5 := UO 5 (by decide)
            have U34 := UO 34 (by decide)
            have U35 := UO 35 (by decide)
            have U36 := UO 36 (by decide)
            have U37 := UO 37 (by decide)
            have U38 := UO 38 (by decide)
            have U39 := UO 39 (by decide)
            have U40 := UO 40 (by decide)
            have U41 := UO 41 (by decide)
            have U43 := UO 43 (by decide)
            have U44 := UO 44 (by decide)
            have U45 := UO 45 (by decide)
            refine wpOp_step rfl (fun K hK => ?_)
            simp only [frAE, e0, e3, e6]
            go_simp
            refine hK _ _ ⟨updAE us 42 (.slice (some ⟨g, off, none⟩) ps.length c), by simp [frAE, updAE, e0, e3, e6], { u0 := (U0.trans I.u0), u3 := (U3.trans I.u3), u6 := (U6.trans I.u6), bel := (I.bel), o1 := (fun h => U35.trans (I.o1 (D1.symm.trans h))), o2 := (fun h => U36.trans (I.o2 (D2.symm.trans h))), o3 := (fun h => U37.trans (I.o3 (D3.symm.trans h))), o5 := (fun h => U39.trans (I.o5 (D5.symm.trans h))), o8 := (fun _ => U42), o9 := (fun h => U43.trans (I.o9 (D9.symm.trans h))), o10 := (fun h => U44.trans (I.o10 (D10.symm.trans h))), o13 := (fun h => U5.trans (I.o13 (D13.symm.trans h))), o6 := (fun h0 h1 => by rw [U40]; exact I.o6 (D6.symm.trans h0) (D7.symm.trans h1)), r0 := (fun h0 h1 => by rw [U34]; exact I.r0 (D0.symm.trans h0) (D4.symm.trans h1)), r4 := (fun h0 h1 => by rw [U38]; exact I.r4 (D4.symm.trans h0) (D7.symm.trans h1)), r7 := (fun h0 h1 => by rw [U41]; exact I.r7 (D7.symm.trans h0) (D11.symm.trans h1)), r11 := (fun h0 => by rw [U45]; exact I.r11 (D11.symm.trans h0)), s0 := (fun h0 h1 h2 h3 => by rw [U34, U40]; exact I.s0 (D0.symm.trans h0) (D4.symm.trans h1) (D6.symm.trans h2) (D7.symm.trans h3)), s4 := (fun h0 h1 h2 => by rw [U38, U40]; exact I.s4 (D4.symm.trans h0) (D7.symm.trans h1) (D6.symm.trans h2)), o12 := (fun h => by rw [U4, U45, D11]; exact I.o12 (D12.symm.trans h)), i7 := (fun h => D4.trans (I.i7 (D7.symm.trans h))), i11 := (fun h => D7.trans (I.i11 (D11.symm.trans h))) }⟩
          · skip
            have DO : ∀ n, 9 ≠ n → (d.setIfInBounds 9 true).getD n false = d.getD n false := fun n h => getD_set_ne false h
            have D9 : (d.setIfInBounds 9 true).getD 9 false = true := getD_set_sameE hun
            have D0 := DO 0 (by decide)
            have D1 := DO 1 (by decide)
            have D2 := DO 2 (by decide)
            have D3 := DO 3 (by decide)
            have D4 := DO 4 (by decide)
            have D5 := DO 5 (by decide)
            have D6 := DO 6 (by decide)
            have D7 := DO 7 (by decide)
            have D8 := DO 8 (by decide)
            have D10 := DO 10 (by decide)
            have D11 := DO 11 (by decide)
            have D12 := DO 12 (by decide)
            have D13 := DO 13 (by decide)
            have UO : ∀ n, n ≠ 43 → updAE us 43 (.int .i64 ((k : Nat) : Int)) n = us n := fun n h => upd_otherE h
            have U43 : updAE us 43 (.int .i64 ((k : Nat) : Int)) 43 = (.int .i64 ((k : Nat) : Int)) := upd_sameE _ _ _
            have U0 := UO 0 (by decide)
            have U3 := UO 3 (by decide)
            have U6 := UO 6 (by decide)
            have U4 := UO 4 (by decide)
            have U5 := UO 5 (by decide)
            have U34 := UO 34 (by decide)
            have U35 := UO 35 (by decide)
            have U36 := UO 36 (by decide)
            have U37 := UO 37 (by decide)
            have U38 := UO 38 (by decide)
            have U39 := UO 39 (by decide)
            have U40 := UO 40 (by decide)
            have U41 := UO 41 (by decide)
            have U42 := UO 42 (by decide)
            have U44 := UO 44 (by decide)
            have U45 := UO 45 (by decide)
            refine wpOp_step rfl (fun K hK => ?_)
            simp only [frAE, e0, e3, e6]
            go_simp
            refine hK _ _ ⟨updAE us 43 (.int .i64 ((k : Nat) : Int)), by simp [frAE, updAE, e0, e3, e6], { u0 := (U0.trans I.u0), u3 := (U3.trans I.u3), u6 := (U6.trans I.u6), bel := (I.bel), o1 := (fun h => U35.trans (I.o1 (D1.symm.trans h))), o2 := (fun h => U36.trans (I.o2 (D2.symm.trans h))), o3 := (fun h => U37.trans (I.o3 (D3.symm.trans h))), o5 := (fun h => U39.trans (I.o5 (D5.symm.trans h))), o8 := (fun h => U42.trans (I.o8 (D8.symm.trans h))), o9 := (fun _ => U43), o10 := (fun h => U44.trans (I.o10 (D10.symm.trans h))), o13 := (fun h => U5.trans (I.o13 (D13.symm.trans h))), o6 := (fun h0 h1 => by rw [U40]; exact I.o6 (D6.symm.trans h0) (D7.symm.trans h1)), r0 := (fun h0 h1 => by rw [U34]; exact I.r0 (D0.symm.trans h0) (D4.symm.trans h1)), r4 := (fun h0 h1 => by rw [U38]; exact I.r4 (D4.symm.trans h0) (D7.symm.trans h1)), r7 := (fun h0 h1 => by rw [U41]; exact I.r7 (D7.symm.trans h0) (D11.symm.trans h1)), r11 := (fun h0 => by rw [U45]; exact I.r11 (D11.symm.trans h0)), s0 := (fun h0 h1 h2 h3 => by rw [U34, U40]; exact I.s0 (D0.symm.trans h0) (D4.symm.trans h1) (D6.symm.trans h2) (D7.symm.trans h3)), s4 := (fun h0 h1 h2 => by rw [U38, U40]; exact I.s4 (D4.symm.trans h0) (D7.symm.trans h1) (D6.symm.trans h2)), o12 := (fun h => by rw [U4, U45, D11]; exact I.o12 (D12.symm.trans h)), i7 := (fun h => D4.trans (I.i7 (D7.symm.trans h))), i11 := (fun h => D7.trans (I.i11 (D11.symm.trans h))) }⟩
          · skip
            have DO : ∀ n, 10 ≠ n → (d.setIfInBounds 10 true).getD n false = d.getD n false := fun n h => getD_set_ne false h
            have D10 : (d.setIfInBounds 10 true).getD 10 false = true := getD_set_sameE hun
            have D0 := DO 0 (by decide)
            have D1 := DO 1 (by decide)
            have D2 := DO 2 (by decide)
            have D3 := DO 3 (by decide)
            have D4 := DO 4 (by decide)
            have D5 := DO 5 (by decide)
            have D6 := DO 6 (by decide)
            have D7 := DO 7 (by decide)
            have D8 := DO 8 (by decide)
            have D9 := DO 9 (by decide)
            have D11 := DO 11 (by decide)
            have D12 := DO 12 (by decide)
            have D13 := DO 13 (by decide)
            have e42 := I.o8 (hall ⟨8, .data⟩ (by simp) rfl)
            have e43 := I.o9 (hall ⟨9, .data⟩ (by simp) rfl)
            have UO : ∀ n, n ≠ 44 → updAE us 44 (.slice (some ⟨g, off + k * 7, none⟩) (ps.length - k) (c - k)) n = us n := fun n h => upd_otherE h
            have U44 : updAE us 44 (.slice (some ⟨g, off + k * 7, none⟩) (ps.length - k) (c - k)) 44 = (.slice (some ⟨g, off + k * 7, none⟩) (ps.length - k) (c - k)) := upd_sameE _ _ _
            have U0 := UO 0 (by decide)
            have U3 := UO 3 (by decide)
            have U6 := UO 6 (by decide)
            have U4 := UO 4 (by decide)
            have U5 := UO 5 (by decide)
            have U34 := UO 34 (by decide)
            have U35 := UO 35 (by decide)
            have U36 := UO 36 (by decide)
            have U37 := UO 37 (by decide)
            have U38 := UO 38 (by decide)
            have U39 := UO 39 (by decide)
            have U40 := UO 40 (by decide)
            have U41 := UO 41 (by decide)
            have U42 := UO 42 (by decide)
            have U43 := UO 43 (by decide)
            have U45 := UO 45 (by decide)
            refine wpOp_step rfl (fun K hK => ?_)
            simp only [frAE, e0, e3, e6, e42, e43]
            go_simp
            try (rw [if_pos (by omega)]; go_simp)
            refine hK _ _ ⟨updAE us 44 (.slice (some ⟨g, off + k * 7, none⟩) (ps.length - k) (c - k)), by simp [frAE, updAE, e0, e3, e6, e42, e43, e1s], { u0 := (U0.trans I.u0), u3 := (U3.trans I.u3), u6 := (U6.trans I.u6), bel := (I.bel), o1 := (fun h => U35.trans (I.o1 (D1.symm.trans h))), o2 := (fun h => U36.trans (I.o2 (D2.symm.trans h))), o3 := (fun h => U37.trans (I.o3 (D3.symm.trans h))), o5 := (fun h => U39.trans (I.o5 (D5.symm.trans h))), o8 := (fun h => U42.trans (I.o8 (D8.symm.trans h))), o9 := (fun h => U43.trans (I.o9 (D9.symm.trans h))), o10 := (fun _ => U44), o13 := (fun h => U5.trans (I.o13 (D13.symm.trans h))), o6 := (fun h0 h1 => by rw [U40]; exact I.o6 (D6.symm.trans h0) (D7.symm.trans h1)), r0 := (fun h0 h1 => by rw [U34]; exact I.r0 (D0.symm.trans h0) (D4.symm.trans h1)), r4 := (fun h0 h1 => by rw [U38]; exact I.r4 (D4.symm.trans h0) (D7.symm.trans h1)), r7 := (fun h0 h1 => by rw [U41]; exact I.r7 (D7.symm.trans h0) (D11.symm.trans h1)), r11 := (fun h0 => by rw [U45]; exact I.r11 (D11.symm.trans h0)), s0 := (fun h0 h1 h2 h3 => by rw [U34, U40]; exact I.s0 (D0.symm.trans h0) (D4.symm.trans h1) (D6.symm.trans h2) (D7.symm.trans h3)), s4 := (fun h0 h1 h2 => by rw [U38, U40]; exact I.s4 (D4.symm.trans h0) (D7.symm.trans h1) (D6.symm.trans h2)), o12 := (fun h => by rw [U4, U45, D11]; exact I.o12 (D12.symm.trans h)), i7 := (fun h => D4.trans (I.i7 (D7.symm.trans h))), i11 := (fun h => D7.trans (I.i11 (D11.symm.trans h))) }⟩
          · skip
            have DO : ∀ n, 11 ≠ n → (d.setIfInBounds 11 true).getD n false = d.getD n false := fun n h => getD_set_ne false h
            have D11 : (d.setIfInBounds 11 true).getD 11 false = true := getD_set_sameE hun
            have D0 := DO 0 (by decide)
            have D1 := DO 1 (by decide)
            have D2 := DO 2 (by decide)
            have D3 := DO 3 (by decide)
            have D4 := DO 4 (by decide)
            have D5 := DO 5 (by decide)
            have D6 := DO 6 (by decide)
            have D7 := DO 7 (by decide)
            have D8 := DO 8 (by decide)
            have D9 := DO 9 (by decide)
            have D10 := DO 10 (by decide)
            have D12 := DO 12 (by decide)
            have D13 := DO 13 (by decide)
            have e44 := I.o10 (hall ⟨10, .data⟩ (by simp) rfl)
            have h77 := hall ⟨7, .data⟩ (by simp) rfl
            have hRow := I.r7 (hall ⟨7, .data⟩ (by simp) rfl) (getD_tfE hun)
            refine wpOp_append_evt rfl rfl (.tmp 41) (.tmp 44) rfl wq.heap.size (us 41) ((ps.take k) ++ [x]) rfl hRow (some ⟨g, off + k * 7, none⟩) ((c - k)) ((ps.drop k)) (by show us 44 = _; rw [e44] <;> simp [hl3]) (q3.below I.bel) (.inr ⟨_, _, rfl⟩) (by simp [hl1, hl3] <;> omega) hsz ?_
            intro v W2 hR2 hB hg hv
            have UO : ∀ n, n ≠ 45 → updAE us 45 (v) n = us n := fun n h => upd_otherE h
            have U45 : updAE us 45 (v) 45 = (v) := upd_sameE _ _ _
            have U0 := UO 0 (by decide)
            have U3 := UO 3 (by decide)
            have U6 := UO 6 (by decide)
            have U4 := UO 4 (by decide)
            have U5 := UO 5 (by decide)
            have U34 := UO 34 (by decide)
            have U35 := UO 35 (by decide)
            have U36 := UO 36 (by decide)
            have U37 := UO 37 (by decide)
            have U38 := UO 38 (by decide)
            have U39 := UO 39 (by decide)
            have U40 := UO 40 (by decide)
            have U41 := UO 41 (by decide)
            have U42 := UO 42 (by decide)
            have U43 := UO 43 (by decide)
            have U44 := UO 44 (by decide)
            refine ⟨updAE us 45 v, by simp [frAE, updAE, Act.put], { u0 := (U0.trans I.u0), u3 := (U3.trans I.u3), u6 := (U6.trans I.u6), bel := (I.bel.trans hB), o1 := (fun h => U35.trans (I.o1 (D1.symm.trans h))), o2 := (fun h => U36.trans (I.o2 (D2.symm.trans h))), o3 := (fun h => U37.trans (I.o3 (D3.symm.trans h))), o5 := (fun h => U39.trans (I.o5 (D5.symm.trans h))), o8 := (fun h => U42.trans (I.o8 (D8.symm.trans h))), o9 := (fun h => U43.trans (I.o9 (D9.symm.trans h))), o10 := (fun h => U44.trans (I.o10 (D10.symm.trans h))), o13 := (fun h => U5.trans (I.o13 (D13.symm.trans h))), o6 := (fun h0 h1 => absurd h77 (by rw [D7.symm.trans h1]; exact Bool.false_ne_true)), r0 := (fun h0 h1 => absurd (I.i7 h77) (by rw [D4.symm.trans h1]; exact Bool.false_ne_true)), r4 := (fun h0 h1 => absurd h77 (by rw [D7.symm.trans h1]; exact Bool.false_ne_true)), r7 := (fun h0 h1 => by rw [D11] at h1; cases h1), r11 := (fun _ => by rw [U45]; exact hR2), s0 := (fun h0 h1 h2 h3 => by rw [U34, U40]; exact I.s0 (D0.symm.trans h0) (D4.symm.trans h1) (D6.symm.trans h2) (D7.symm.trans h3)), s4 := (fun h0 h1 h2 => by rw [U38, U40]; exact I.s4 (D4.symm.trans h0) (D7.symm.trans h1) (D6.symm.trans h2)), o12 := (fun h => absurd (I.o12 (D12.symm.trans h)).2 (by rw [getD_tfE hun]; exact Bool.false_ne_true)), i7 := (fun h => D4.trans (I.i7 (D7.symm.trans h))), i11 := (fun _ => D7.trans h77) }⟩
          · skip
            have DO : ∀ n, 12 ≠ n → (d.setIfInBounds 12 true).getD n false = d.getD n false := fun n h => getD_set_ne false h
            have D12 : (d.setIfInBounds 12 true).getD 12 false = true := getD_set_sameE hun
            have D0 := DO 0 (by decide)
            have D1 := DO 1 (by decide)
            have D2 := DO 2 (by decide)
            have D3 := DO 3 (by decide)
            have D4 := DO 4 (by decide)
            have D5 := DO 5 (by decide)
            have D6 := DO 6 (by decide)
            have D7 := DO 7 (by decide)
            have D8 := DO 8 (by decide)
            have D9 := DO 9 (by decide)
            have D10 := DO 10 (by decide)
            have D11 := DO 11 (by decide)
            have D13 := DO 13 (by decide)
            have h11 := hall ⟨11, .data⟩ (by simp) rfl
            have UO : ∀ n, n ≠ 4 → updAE us 4 (us 45) n = us n := fun n h => upd_otherE h
            have U4 : updAE us 4 (us 45) 4 = (us 45) := upd_sameE _ _ _
            have U0 := UO 0 (by decide)
            have U3 := UO 3 (by decide)
            have U6 := UO 6 (by decide)
            have U5 := UO 5 (by decide)
            have U34 := UO 34 (by decide)
            have U35 := UO 35 (by decide)
            have U36 := UO 36 (by decide)
            have U37 := UO 37 (by decide)
            have U38 := UO 38 (by decide)
            have U39 := UO 39 (by decide)
            have U40 := UO 40 (by decide)
            have U41 := UO 41 (by decide)
            have U42 := UO 42 (by decide)
            have U43 := UO 43 (by decide)
            have U44 := UO 44 (by decide)
            have U45 := UO 45 (by decide)
            refine wpOp_step rfl (fun K hK => ?_)
            simp only [frAE, e0, e3, e6]
            go_simp
            refine hK _ _ ⟨updAE us 4 (us 45), by simp [frAE, updAE, e0, e3, e6], { u0 := (U0.trans I.u0), u3 := (U3.trans I.u3), u6 := (U6.trans I.u6), bel := (I.bel), o1 := (fun h => U35.trans (I.o1 (D1.symm.trans h))), o2 := (fun h => U36.trans (I.o2 (D2.symm.trans h))), o3 := (fun h => U37.trans (I.o3 (D3.symm.trans h))), o5 := (fun h => U39.trans (I.o5 (D5.symm.trans h))), o8 := (fun h => U42.trans (I.o8 (D8.symm.trans h))), o9 := (fun h => U43.trans (I.o9 (D9.symm.trans h))), o10 := (fun h => U44.trans (I.o10 (D10.symm.trans h))), o13 := (fun h => U5.trans (I.o13 (D13.symm.trans h))), o6 := (fun h0 h1 => by rw [U40]; exact I.o6 (D6.symm.trans h0) (D7.symm.trans h1)), r0 := (fun h0 h1 => by rw [U34]; exact I.r0 (D0.symm.trans h0) (D4.symm.trans h1)), r4 := (fun h0 h1 => by rw [U38]; exact I.r4 (D4.symm.trans h0) (D7.symm.trans h1)), r7 := (fun h0 h1 => by rw [U41]; exact I.r7 (D7.symm.trans h0) (D11.symm.trans h1)), r11 := (fun h0 => by rw [U45]; exact I.r11 (D11.symm.trans h0)), s0 := (fun h0 h1 h2 h3 => by rw [U34, U40]; exact I.s0 (D0.symm.trans h0) (D4.symm.trans h1) (D6.symm.trans h2) (D7.symm.trans h3)), s4 := (fun h0 h1 h2 => by rw [U38, U40]; exact I.s4 (D4.symm.trans h0) (D7.symm.trans h1) (D6.symm.trans h2)), o12 := (fun _ => ⟨by rw [U4, U45], by rw [D11]; exact h11⟩), i7 := (fun h => D4.trans (I.i7 (D7.symm.trans h))), i11 := (fun h => D7.trans (I.i11 (D11.symm.trans h))) }⟩
          · skip
            have DO : ∀ n, 13 ≠ n → (d.setIfInBounds 13 true).getD n false = d.getD n false := fun n h => getD_set_ne false h
            have D13 : (d.setIfInBounds 13 true).getD 13 false = true := getD_set_sameE hun
            have D0 := DO 0 (by decide)
            have D1 := DO 1 (by decide)
            have D2 := DO 2 (by decide)
            have D3 := DO 3 (by decide)
            have D4 := DO 4 (by decide)
            have D5 := DO 5 (by decide)
            have D6 := DO 6 (by decide)
            have D7 := DO 7 (by decide)
            have D8 := DO 8 (by decide)
            have D9 := DO 9 (by decide)
            have D10 := DO 10 (by decide)
            have D11 := DO 11 (by decide)
            have D12 := DO 12 (by decide)
            have UO : ∀ n, n ≠ 5 → updAE us 5 (.int .i64 0) n = us n := fun n h => upd_otherE h
            have U5 : updAE us 5 (.int .i64 0) 5 = (.int .i64 0) := upd_sameE _ _ _
            have U0 := UO 0 (by decide)
            have U3 := UO 3 (by decide)
            have U6 := UO 6 (by decide)
            have U4 := UO 4 (by decide)
            have U34 := UO 34 (by decide)
            have U35 := UO 35 (by decide)
            have U36 := UO 36 (by decide)
            have U37 := UO 37 (by decide)
            have U38 := UO 38 (by decide)
            have U39 := UO 39 (by decide)
            have U40 := UO 40 (by decide)
            have U41 := UO 41 (by decide)
            have U42 := UO 42 (by decide)
            have U43 := UO 43 (by decide)
            have U44 := UO 44 (by decide)
            have U45 := UO 45 (by decide)
            refine wpOp_step rfl (fun K hK => ?_)
            simp only [frAE, e0, e3, e6]
            go_simp
            refine hK _ _ ⟨updAE us 5 (.int .i64 0), by simp [frAE, updAE, e0, e3, e6], { u0 := (U0.trans I.u0), u3 := (U3.trans I.u3), u6 := (U6.trans I.u6), bel := (I.bel), o1 := (fun h => U35.trans (I.o1 (D1.symm.trans h))), o2 := (fun h => U36.trans (I.o2 (D2.symm.trans h))), o3 := (fun h => U37.trans (I.o3 (D3.symm.trans h))), o5 := (fun h => U39.trans (I.o5 (D5.symm.trans h))), o8 := (fun h => U42.trans (I.o8 (D8.symm.trans h))), o9 := (fun h => U43.trans (I.o9 (D9.symm.trans h))), o10 := (fun h => U44.trans (I.o10 (D10.symm.trans h))), o13 := (fun _ => U5), o6 := (fun h0 h1 => by rw [U40]; exact I.o6 (D6.symm.trans h0) (D7.symm.trans h1)), r0 := (fun h0 h1 => by rw [U34]; exact I.r0 (D0.symm.trans h0) (D4.symm.trans h1)), r4 := (fun h0 h1 => by rw [U38]; exact I.r4 (D4.symm.trans h0) (D7.symm.trans h1)), r7 := (fun h0 h1 => by rw [U41]; exact I.r7 (D7.symm.trans h0) (D11.symm.trans h1)), r11 := (fun h0 => by rw [U45]; exact I.r11 (D11.symm.trans h0)), s0 := (fun h0 h1 h2 h3 => by rw [U34, U40]; exact I.s0 (D0.symm.trans h0) (D4.symm.trans h1) (D6.symm.trans h2) (D7.symm.trans h3)), s4 := (fun h0 h1 h2 => by rw [U38, U40]; exact I.s4 (D4.symm.trans h0) (D7.symm.trans h1) (D6.symm.trans h2)), o12 := (fun h => by rw [U4, U45, D11]; exact I.o12 (D12.symm.trans h)), i7 := (fun h => D4.trans (I.i7 (D7.symm.trans h))), i11 := (fun h => D7.trans (I.i11 (D11.symm.trans h))) }⟩
        · intro d a W hd hall hI
          obtain ⟨us, rfl, I⟩ := hI
          have D : ∀ k, k < 14 → d.getD k false = true := fun k hk => by
            have := hall k hk
            have hk2 : k < d.size := by rw [hd]; exact hk
            simp [hk2] at this ⊢; exact this
          obtain ⟨h7, h11⟩ := I.o12 (D 12 (by decide))
          have h13 := I.o13 (D 13 (by decide))
          obtain ⟨O, q, e45, hO⟩ := I.r11 h11
          have e7 := h7.trans e45
          have hbel := I.bel
          rw [hjoin] at e7 hO
          clear I hall D h7 e45
          simp only [frAE, e7, h13]
          go_wp2_with fail
          go_ret2
          rw [HE.out]
          exact ⟨O, q, rfl, hO.mono hkq.bel.size, hkq.bel.trans (hbel.mono hkq.bel.size)⟩
    · obtain rfl : k = ps.length := by omega
      have hjoin : ps.take ps.length ++ [x] ++ ps.drop ps.length = addE ps x := addE_at hk hlo.out fun q hq => by have := (List.getElem?_eq_some_iff.1 hq).1; omega
      have HR := Lib.hid (fun y : Sub (Bel wr) => h.row.below (HK.out y).bel)
      have hd : decide ((ps.length : Int) < (ps.length : Int)) = false := by simp
      clear HT HV hlo h h0
      go_wp2_with fail
      refine region_held (Bel wr) (by kernel_rfl) (by kernel_rfl) (Bel.drew wr) ?_
      repeat (go_big_quiet_step ((first | rfl)))
      refine wpQuiet_nil ?_
      rintro _ ⟨y2, rfl⟩
      go_wp2_with fail
      have hkq := HK.out y2
      have hRq := HR.out y2
      generalize y2.w = wq at *
      have hbox := hkq.cells
      have hb0 : w.heap.size < wq.heap.size := lt_some hkq.a
      rcases hA with ⟨rfl, rfl⟩ | ⟨g, off, rfl⟩
      · obtain rfl : ps = [] := List.eq_nil_of_length_eq_zero (by omega)
        simp only [List.length_nil, List.take_nil, List.drop_nil] at hjoin
        have q1 : EvtR wq none ([] : List Evt) := EvtR.none
        have q3 : EvtR wq none ([] : List Evt) := EvtR.none
        have hl1 : (([] : List Evt)).length = 0 := by simp
        have hl3 : (([] : List Evt)).length = 0 := by simp
        refine region_inv (by kernel_rfl) (by kernel_rfl) (fun d a W => ∃ us, a = frAE us ∧ InvAE wq.heap.size (w.heap.size) (0) (0) (0) (none) (.slice none 0 0) (.slice none 0 0) (([] : List Evt)) (([] : List Evt)) x wq d us W) ?_ ?_ ?_
        · refine ⟨_, frA_ofE, ?_⟩
          have Z : ∀ k, (Array.replicate 14 false).getD k false = false := fun k => by
            rcases Nat.lt_or_ge k 14 with h | h
            · simp [h]
            · simp [Array.getElem?_eq_none, h]
          have Zn : ∀ {k : Nat} {p : Prop}, (Array.replicate 14 false).getD k false = true → p := fun {k p} h => by rw [Z k] at h; cases h
          exact { u0 := rfl, u3 := rfl, u6 := rfl, bel := (Below.refl _ _).drew, o1 := Zn, o2 := Zn, o3 := Zn, o5 := Zn, o8 := Zn, o9 := Zn, o10 := Zn, o6 := Zn, r0 := Zn, r4 := Zn, r7 := Zn, r11 := Zn, s0 := Zn, s4 := Zn, o12 := Zn, o13 := Zn, i7 := Zn, i11 := Zn }
        · intro i d a W hi hI
          obtain ⟨hun, oi, hoi, hall⟩ := mem_ready.1 hi
          have hlt : i < 14 := (Array.getElem?_eq_some_iff.1 hoi).1
          obtain ⟨us, rfl, I⟩ := hI
          have hsz : wq.heap.size ≤ W.heap.size := I.bel.size
          have e0 := I.u0
          have e3 := I.u3
          have e6 := I.u6
          rcases (by omega : i = 0 ∨ i = 1 ∨ i = 2 ∨ i = 3 ∨ i = 4 ∨ i = 5 ∨ i = 6 ∨ i = 7 ∨ i = 8 ∨ i = 9 ∨ i = 10 ∨ i = 11 ∨ i = 12 ∨ i = 13) with rfl | rfl | rfl | rfl | rfl | rfl | rfl | rfl | rfl | rfl | rfl | rfl | rfl | rfl
          all_goals
            obtain rfl := Option.some.inj hoi
            clear hoi hlt hi
          · skip
            have DO : ∀ n, 0 ≠ n → (d.setIfInBounds 0 true).getD n false = d.getD n false := fun n h => getD_set_ne false h
            have D0 : (d.setIfInBounds 0 true).getD 0 false = true := getD_set_sameE hun
            have D1 := DO 1 (by decide)
            have D2 := DO 2 (by decide)
            have D3 := DO 3 (by decide)
            have D4 := DO 4 (by decide)
            have D5 := DO 5 (by decide)
            have D6 := DO 6 (by decide)
            have D7 := DO 7 (by decide)
            have D8 := DO 8 (by decide)
            have D9 := DO 9 (by decide)
            have D10 := DO 10 (by decide)
            have D11 := DO 11 (by decide)
            have D12 := DO 12 (by decide)
            have D13 := DO 13 (by decide)
            have UO : ∀ n, n ≠ 34 → updAE us 34 (.slice (some ⟨W.heap.size, 0, none⟩) 0 0) n = us n := fun n h => upd_otherE h
            have U34 : updAE us 34 (.slice (some ⟨W.heap.size, 0, none⟩) 0 0) 34 = (.slice (some ⟨W.heap.size, 0, none⟩) 0 0) := upd_sameE _ _ _
            have U0 := UO 0 (by decide)
            have U3 := UO 3 (by decide)
            have U6 := UO 6 (by decide)
            have U4 := UO 4 (by decide)
            have U5 := UO 5 (by decide)
            have U35 := UO 35 (by decide)
            have U36 := UO 36 (by decide)
            have U37 := UO 37 (by decide)
            have U38 := UO 38 (by decide)
            have U39 := UO 39 (by decide)
            have U40 := UO 40 (by decide)
            have U41 := UO 41 (by decide)
            have U42 := UO 42 (by decide)
            have U43 := UO 43 (by decide)
            have U44 := UO 44 (by decide)
            have U45 := UO 45 (by decide)
            refine wpOp_step rfl (fun K hK => ?_)
            simp only [frAE, e0, e3, e6]
            go_simp
            refine hK _ _ ⟨updAE us 34 (.slice (some ⟨W.heap.size, 0, none⟩) 0 0), by simp [frAE, updAE, e0, e3, e6], { u0 := (U0.trans I.u0), u3 := (U3.trans I.u3), u6 := (U6.trans I.u6), bel := (I.bel.alloc hsz _), o1 := (fun h => U35.trans (I.o1 (D1.symm.trans h))), o2 := (fun h => U36.trans (I.o2 (D2.symm.trans h))), o3 := (fun h => U37.trans (I.o3 (D3.symm.trans h))), o5 := (fun h => U39.trans (I.o5 (D5.symm.trans h))), o8 := (fun h => U42.trans (I.o8 (D8.symm.trans h))), o9 := (fun h => U43.trans (I.o9 (D9.symm.trans h))), o10 := (fun h => U44.trans (I.o10 (D10.symm.trans h))), o13 := (fun h => U5.trans (I.o13 (D13.symm.trans h))), o6 := (fun h0 h1 => by rw [U40]; exact (I.o6 (D6.symm.trans h0) (D7.symm.trans h1)).below (below_alloc _ _)), r0 := (fun h0 h1 => by rw [U34]; exact ⟨_, _, rfl, made0e _ _ _ _ hsz⟩), r4 := (fun h0 h1 => by rw [U38]; exact (I.r4 (D4.symm.trans h0) (D7.symm.trans h1)).below (below_alloc _ _)), r7 := (fun h0 h1 => by rw [U41]; exact (I.r7 (D7.symm.trans h0) (D11.symm.trans h1)).below (below_alloc _ _)), r11 := (fun h0 => by rw [U45]; exact (I.r11 (D11.symm.trans h0)).below (below_alloc _ _)), s0 := (fun h0 h1 h2 h3 => by rw [U34, U40]; exact sep_gtE fun k hk => (I.o6 (D6.symm.trans h2) (D7.symm.trans h3)).lt hk), s4 := (fun h0 h1 h2 => by rw [U38, U40]; exact I.s4 (D4.symm.trans h0) (D7.symm.trans h1) (D6.symm.trans h2)), o12 := (fun h => by rw [U4, U45, D11]; exact I.o12 (D12.symm.trans h)), i7 := (fun h => D4.trans (I.i7 (D7.symm.trans h))), i11 := (fun h => D7.trans (I.i11 (D11.symm.trans h))) }⟩
          · skip
            have DO : ∀ n, 1 ≠ n → (d.setIfInBounds 1 true).getD n false = d.getD n false := fun n h => getD_set_ne false h
            have D1 : (d.setIfInBounds 1 true).getD 1 false = true := getD_set_sameE hun
            have D0 := DO 0 (by decide)
            have D2 := DO 2 (by decide)
            have D3 := DO 3 (by decide)
            have D4 := DO 4 (by decide)
            have D5 := DO 5 (by decide)
            have D6 := DO 6 (by decide)
            have D7 := DO 7 (by decide)
            have D8 := DO 8 (by decide)
            have D9 := DO 9 (by decide)
            have D10 := DO 10 (by decide)
            have D11 := DO 11 (by decide)
            have D12 := DO 12 (by decide)
            have D13 := DO 13 (by decide)
            have UO : ∀ n, n ≠ 35 → updAE us 35 (.slice (none) 0 0) n = us n := fun n h => upd_otherE h
            have U35 : updAE us 35 (.slice (none) 0 0) 35 = (.slice (none) 0 0) := upd_sameE _ _ _
            have U0 := UO 0 (by decide)
            have U3 := UO 3 (by decide)
            have U6 := UO 6 (by decide)
            have U4 := UO 4 (by decide)
            have U5 := UO 5 (by decide)
            have U34 := UO 34 (by decide)
            have U36 := UO 36 (by decide)
            have U37 := UO 37 (by decide)
            have U38 := UO 38 (by decide)
            have U39 := UO 39 (by decide)
            have U40 := UO 40 (by decide)
            have U41 := UO 41 (by decide)
            have U42 := UO 42 (by decide)
            have U43 := UO 43 (by decide)
            have U44 := UO 44 (by decide)
            have U45 := UO 45 (by decide)
            refine wpOp_step rfl (fun K hK => ?_)
            simp only [frAE, e0, e3, e6]
            go_simp
            refine hK _ _ ⟨updAE us 35 (.slice (none) 0 0), by simp [frAE, updAE, e0, e3, e6], { u0 := (U0.trans I.u0), u3 := (U3.trans I.u3), u6 := (U6.trans I.u6), bel := (I.bel), o1 := (fun _ => U35), o2 := (fun h => U36.trans (I.o2 (D2.symm.trans h))), o3 := (fun h => U37.trans (I.o3 (D3.symm.trans h))), o5 := (fun h => U39.trans (I.o5 (D5.symm.trans h))), o8 := (fun h => U42.trans (I.o8 (D8.symm.trans h))), o9 := (fun h => U43.trans (I.o9 (D9.symm.trans h))), o10 := (fun h => U44.trans (I.o10 (D10.symm.trans h))), o13 := (fun h => U5.trans (I.o13 (D13.symm.trans h))), o6 := (fun h0 h1 => by rw [U40]; exact I.o6 (D6.symm.trans h0) (D7.symm.trans h1)), r0 := (fun h0 h1 => by rw [U34]; exact I.r0 (D0.symm.trans h0) (D4.symm.trans h1)), r4 := (fun h0 h1 => by rw [U38]; exact I.r4 (D4.symm.trans h0) (D7.symm.trans h1)), r7 := (fun h0 h1 => by rw [U41]; exact I.r7 (D7.symm.trans h0) (D11.symm.trans h1)), r11 := (fun h0 => by rw [U45]; exact I.r11 (D11.symm.trans h0)), s0 := (fun h0 h1 h2 h3 => by rw [U34, U40]; exact I.s0 (D0.symm.trans h0) (D4.symm.trans h1) (D6.symm.trans h2) (D7.symm.trans h3)), s4 := (fun h0 h1 h2 => by rw [U38, U40]; exact I.s4 (D4.symm.trans h0) (D7.symm.trans h1) (D6.symm.trans h2)), o12 := (fun h => by rw [U4, U45, D11]; exact I.o12 (D12.symm.trans h)), i7 := (fun h => D4.trans (I.i7 (D7.symm.trans h))), i11 := (fun h => D7.trans (I.i11 (D11.symm.trans h))) }⟩
          · skip
            have DO : ∀ n, 2 ≠ n → (d.setIfInBounds 2 true).getD n false = d.getD n false := fun n h => getD_set_ne false h
            have D2 : (d.setIfInBounds 2 true).getD 2 false = true := getD_set_sameE hun
            have D0 := DO 0 (by decide)
            have D1 := DO 1 (by decide)
            have D3 := DO 3 (by decide)
            have D4 := DO 4 (by decide)
            have D5 := DO 5 (by decide)
            have D6 := DO 6 (by decide)
            have D7 := DO 7 (by decide)
            have D8 := DO 8 (by decide)
            have D9 := DO 9 (by decide)
            have D10 := DO 10 (by decide)
            have D11 := DO 11 (by decide)
            have D12 := DO 12 (by decide)
            have D13 := DO 13 (by decide)
            have UO : ∀ n, n ≠ 36 → updAE us 36 (.int .i64 ((0 : Nat) : Int)) n = us n := fun n h => upd_otherE h
            have U36 : updAE us 36 (.int .i64 ((0 : Nat) : Int)) 36 = (.int .i64 ((0 : Nat) : Int)) := upd_sameE _ _ _
            have U0 := UO 0 (by decide)
            have U3 := UO 3 (by decide)
            have U6 := UO 6 (by decide)
            have U4 := UO 4 (by decide)
            have U5 := UO 5 (by decide)
            have U34 := UO 34 (by decide)
            have U35 := UO 35 (by decide)
            have U37 := UO 37 (by decide)
            have U38 := UO 38 (by decide)
            have U39 := UO 39 (by decide)
            have U40 := UO 40 (by decide)
            have U41 := UO 41 (by decide)
            have U42 := UO 42 (by decide)
            have U43 := UO 43 (by decide)
            have U44 := UO 44 (by decide)
            have U45 := UO 45 (by decide)
            refine wpOp_step rfl (fun K hK => ?_)
            simp only [frAE, e0, e3, e6]
            go_simp
            refine hK _ _ ⟨updAE us 36 (.int .i64 ((0 : Nat) : Int)), by simp [frAE, updAE, e0, e3, e6], { u0 := (U0.trans I.u0), u3 := (U3.trans I.u3), u6 := (U6.trans I.u6), bel := (I.bel), o1 := (fun h => U35.trans (I.o1 (D1.symm.trans h))), o2 := (fun _ => U36), o3 := (fun h => U37.trans (I.o3 (D3.symm.trans h))), o5 := (fun h => U39.trans (I.o5 (D5.symm.trans h))), o8 := (fun h => U42.trans (I.o8 (D8.symm.trans h))), o9 := (fun h => U43.trans (I.o9 (D9.symm.trans h))), o10 := (fun h => U44.trans (I.o10 (D10.symm.trans h))), o13 := (fun h => U5.trans (I.o13 (D13.symm.trans h))), o6 := (fun h0 h1 => by rw [U40]; exact I.o6 (D6.symm.trans h0) (D7.symm.trans h1)), r0 := (fun h0 h1 => by rw [U34]; exact I.r0 (D0.symm.trans h0) (D4.symm.trans h1)), r4 := (fun h0 h1 => by rw [U38]; exact I.r4 (D4.symm.trans h0) (D7.symm.trans h1)), r7 := (fun h0 h1 => by rw [U41]; exact I.r7 (D7.symm.trans h0) (D11.symm.trans h1)), r11 := (fun h0 => by rw [U45]; exact I.r11 (D11.symm.trans h0)), s0 := (fun h0 h1 h2 h3 => by rw [U34, U40]; exact I.s0 (D0.symm.trans h0) (D4.symm.trans h1) (D6.symm.trans h2) (D7.symm.trans h3)), s4 := (fun h0 h1 h2 => by rw [U38, U40]; exact I.s4 (D4.symm.trans h0) (D7.symm.trans h1) (D6.symm.trans h2)), o12 := (fun h => by rw [U4, U45, D11]; exact I.o12 (D12.symm.trans h)), i7 := (fun h => D4.trans (I.i7 (D7.symm.trans h))), i11 := (fun h => D7.trans (I.i11 (D11.symm.trans h))) }⟩
          · skip
            have DO : ∀ n, 3 ≠ n → (d.setIfInBounds 3 true).getD n false = d.getD n false := fun n h => getD_set_ne false h
            have D3 : (d.setIfInBounds 3 true).getD 3 false = true := getD_set_sameE hun
            have D0 := DO 0 (by decide)
            have D1 := DO 1 (by decide)
            have D2 := DO 2 (by decide)
            have D4 := DO 4 (by decide)
            have D5 := DO 5 (by decide)
            have D6 := DO 6 (by decide)
            have D7 := DO 7 (by decide)
            have D8 := DO 8 (by decide)
            have D9 := DO 9 (by decide)
            have D10 := DO 10 (by decide)
            have D11 := DO 11 (by decide)
            have D12 := DO 12 (by decide)
            have D13 := DO 13 (by decide)
            have e35 := I.o1 (hall ⟨1, .data⟩ (by simp) rfl)
            have e36 := I.o2 (hall ⟨2, .data⟩ (by simp) rfl)
            have UO : ∀ n, n ≠ 37 → updAE us 37 (.slice none 0 0) n = us n := fun n h => upd_otherE h
            have U37 : updAE us 37 (.slice none 0 0) 37 = (.slice none 0 0) := upd_sameE _ _ _
            have U0 := UO 0 (by decide)
            have U3 := UO 3 (by decide)
            have U6 := UO 6 (by decide)
            have U4 := UO 4 (by decide)
            have U5 := UO 5 (by decide)
            have U34 := UO 34 (by decide)
            have U35 := UO 35 (by decide)
            have U36 := UO 36 (by decide)
            have U38 := UO 38 (by decide)
            have U39 := UO 39 (by decide)
            have U40 := UO 40 (by decide)
            have U41 := UO 41 (by decide)
            have U42 := UO 42 (by decide)
            have U43 := UO 43 (by decide)
            have U44 := UO 44 (by decide)
            have U45 := UO 45 (by decide)
            refine wpOp_step rfl (fun K hK => ?_)
            simp only [frAE, e0, e3, e6, e35, e36]
            go_simp
            try (rw [if_pos (by omega)]; go_simp)
            refine hK _ _ ⟨updAE us 37 (.slice none 0 0), by simp [frAE, updAE, e0, e3, e6, e35, e36], { u0 := (U0.trans I.u0), u3 := (U3.trans I.u3), u6 := (U6.trans I.u6), bel := (I.bel), o1 := (fun h => U35.trans (I.o1 (D1.symm.trans h))), o2 := (fun h => U36.trans (I.o2 (D2.symm.trans h))), o3 := (fun _ => U37), o5 := (fun h => U39.trans (I.o5 (D5.symm.trans h))), o8 := (fun h => U42.trans (I.o8 (D8.symm.trans h))), o9 := (fun h => U43.trans (I.o9 (D9.symm.trans h))), o10 := (fun h => U44.trans (I.o10 (D10.symm.trans h))), o13 := (fun h => U5.trans (I.o13 (D13.symm.trans h))), o6 := (fun h0 h1 => by rw [U40]; exact I.o6 (D6.symm.trans h0) (D7.symm.trans h1)), r0 := (fun h0 h1 => by rw [U34]; exact I.r0 (D0.symm.trans h0) (D4.symm.trans h1)), r4 := (fun h0 h1 => by rw [U38]; exact I.r4 (D4.symm.trans h0) (D7.symm.trans h1)), r7 := (fun h0 h1 => by rw [U41]; exact I.r7 (D7.symm.trans h0) (D11.symm.trans h1)), r11 := (fun h0 => by rw [U45]; exact I.r11 (D11.symm.trans h0)), s0 := (fun h0 h1 h2 h3 => by rw [U34, U40]; exact I.s0 (D0.symm.trans h0) (D4.symm.trans h1) (D6.symm.trans h2) (D7.symm.trans h3)), s4 := (fun h0 h1 h2 => by rw [U38, U40]; exact I.s4 (D4.symm.trans h0) (D7.symm.trans h1) (D6.symm.trans h2)), o12 := (fun h => by rw [U4, U45, D11]; exact I.o12 (D12.symm.trans h)), i7 := (fun h => D4.trans (I.i7 (D7.symm.trans h))), i11 := (fun h => D7.trans (I.i11 (D11.symm.trans h))) }⟩
          · skip
            have DO : ∀ n, 4 ≠ n → (d.setIfInBounds 4 true).getD n false = d.getD n false := fun n h => getD_set_ne false h
            have D4 : (d.setIfInBounds 4 true).getD 4 false = true := getD_set_sameE hun
            have D0 := DO 0 (by decide)
            have D1 := DO 1 (by decide)
            have D2 := DO 2 (by decide)
            have D3 := DO 3 (by decide)
            have D5 := DO 5 (by decide)
            have D6 := DO 6 (by decide)
            have D7 := DO 7 (by decide)
            have D8 := DO 8 (by decide)
            have D9 := DO 9 (by decide)
            have D10 := DO 10 (by decide)
            have D11 := DO 11 (by decide)
            have D12 := DO 12 (by decide)
            have D13 := DO 13 (by decide)
            have e37 := I.o3 (hall ⟨3, .data⟩ (by simp) rfl)
            have h00 := hall ⟨0, .data⟩ (by simp) rfl
            have hRow := I.r0 (hall ⟨0, .data⟩ (by simp) rfl) (getD_tfE hun)
            refine wpOp_append_evt rfl rfl (.tmp 34) (.tmp 37) rfl wq.heap.size (us 34) [] rfl hRow (none) (0) (([] : List Evt)) (by show us 37 = _; rw [e37] <;> simp [hl1]) (q1.below I.bel) (.inl rfl) (by simp [hl1, hl3] <;> omega) hsz ?_
            intro v W2 hR2 hB hg hv
            have UO : ∀ n, n ≠ 38 → updAE us 38 (v) n = us n := fun n h => upd_otherE h
            have U38 : updAE us 38 (v) 38 = (v) := upd_sameE _ _ _
            have U0 := UO 0 (by decide)
            have U3 := UO 3 (by decide)
            have U6 := UO 6 (by decide)
            have U4 := UO 4 (by decide)
            have U5 := UO 5 (by decide)
            have U34 := UO 34 (by decide)
            have U35 := UO 35 (by decide)
            have U36 := UO 36 (by decide)
            have U37 := UO 37 (by decide)
            have U39 := UO 39 (by decide)
            have U40 := UO 40 (by decide)
            have U41 := UO 41 (by decide)
            have U42 := UO 42 (by decide)
            have U43 := UO 43 (by decide)
            have U44 := UO 44 (by decide)
            have U45 := UO 45 (by decide)
            refine ⟨updAE us 38 v, by simp [frAE, updAE, Act.put], { u0 := (U0.trans I.u0), u3 := (U3.trans I.u3), u6 := (U6.trans I.u6), bel := (I.bel.trans hB), o1 := (fun h => U35.trans (I.o1 (D1.symm.trans h))), o2 := (fun h => U36.trans (I.o2 (D2.symm.trans h))), o3 := (fun h => U37.trans (I.o3 (D3.symm.trans h))), o5 := (fun h => U39.trans (I.o5 (D5.symm.trans h))), o8 := (fun h => U42.trans (I.o8 (D8.symm.trans h))), o9 := (fun h => U43.trans (I.o9 (D9.symm.trans h))), o10 := (fun h => U44.trans (I.o10 (D10.symm.trans h))), o13 := (fun h => U5.trans (I.o13 (D13.symm.trans h))), o6 := (fun h0 h1 => by rw [U40]; exact (I.o6 (D6.symm.trans h0) (D7.symm.trans h1)).sep (I.s0 h00 (getD_tfE hun) (D6.symm.trans h0) (D7.symm.trans h1)) hg), r0 := (fun h0 h1 => by rw [D4] at h1; cases h1), r4 := (fun _ _ => by rw [U38]; simpa using hR2), r7 := (fun h0 h1 => absurd (I.i7 (D7.symm.trans h0)) (by rw [getD_tfE hun]; exact Bool.false_ne_true)), r11 := (fun h0 => absurd (I.i7 (I.i11 (D11.symm.trans h0))) (by rw [getD_tfE hun]; exact Bool.false_ne_true)), s0 := (fun h0 h1 h2 h3 => by rw [D4] at h1; cases h1), s4 := (fun h0 h1 h2 => by rw [U38, U40]; exact sep_appE (I.o6 (D6.symm.trans h2) (D7.symm.trans h1)) (I.s0 h00 (getD_tfE hun) (D6.symm.trans h2) (D7.symm.trans h1)) hv), o12 := (fun h => by rw [U4, U45, D11]; exact I.o12 (D12.symm.trans h)), i7 := (fun _ => D4), i11 := (fun h => D7.trans (I.i11 (D11.symm.trans h))) }⟩
          · skip
            have DO : ∀ n, 5 ≠ n → (d.setIfInBounds 5 true).getD n false = d.getD n false := fun n h => getD_set_ne false h
            have D5 : (d.setIfInBounds 5 true).getD 5 false = true := getD_set_sameE hun
            have D0 := DO 0 (by decide)
            have D1 := DO 1 (by decide)
            have D2 := DO 2 (by decide)
            have D3 := DO 3 (by decide)
            have D4 := DO 4 (by decide)
            have D6 := DO 6 (by decide)
            have D7 := DO 7 (by decide)
            have D8 := DO 8 (by decide)
            have D9 := DO 9 (by decide)
            have D10 := DO 10 (by decide)
            have D11 := DO 11 (by decide)
            have D12 := DO 12 (by decide)
            have D13 := DO 13 (by decide)
            have hbx := hbox.belowB hb0 I.bel
            have c0 := hbx.c0
            have c1 := hbx.c1
            have c2 := hbx.c2
            have c3 := hbx.c3
            have c4 := hbx.c4
            have c5 := hbx.c5
            have c6 := hbx.c6
            have UO : ∀ n, n ≠ 39 → updAE us 39 (.agg #[.int .i64 x.d, .int .i64 x.k, .string ⟨x.c.toArray⟩, .int .i64 x.a, .bool x.p, .bool x.v, .bool x.r]) n = us n := fun n h => upd_otherE h
            have U39 : updAE us 39 (.agg #[.int .i64 x.d, .int .i64 x.k, .string ⟨x.c.toArray⟩, .int .i64 x.a, .bool x.p, .bool x.v, .bool x.r]) 39 = (.agg #[.int .i64 x.d, .int .i64 x.k, .string ⟨x.c.toArray⟩, .int .i64 x.a, .bool x.p, .bool x.v, .bool x.r]) := upd_sameE _ _ _
            have U0 := UO 0 (by decide)
            have U3 := UO 3 (by decide)
            have U6 := UO 6 (by decide)
            have U4 := UO 4 (by decide)
            have U5 := UO 5 (by decide)
            have U34 := UO 34 (by decide)
            have U35 := UO 35 (by decide)
            have U36 := UO 36 (by decide)
            have U37 := UO 37 (by decide)
            have U38 := UO 38 (by decide)
            have U40 := UO 40 (by decide)
            have U41 := UO 41 (by decide)
            have U42 := UO 42 (by decide)
            have U43 := UO 43 (by decide)
            have U44 := UO 44 (by decide)
            have U45 := UO 45 (by decide)
            refine wpOp_step rfl (fun K hK => ?_)
            simp only [frAE, e0, e3, e6, c0, c1, c2, c3, c4, c5, c6]
            go_simp
            refine hK _ _ ⟨updAE us 39 (.agg #[.int .i64 x.d, .int .i64 x.k, .string ⟨x.c.toArray⟩, .int .i64 x.a, .bool x.p, .bool x.v, .bool x.r]), by simp [frAE, updAE, e0, e3, e6, c0, c1, c2, c3, c4, c5, c6], { u0 := (U0.trans I.u0), u3 := (U3.trans I.u3), u6 := (U6.trans I.u6), bel := (I.bel), o1 := (fun h => U35.trans (I.o1 (D1.symm.trans h))), o2 := (fun h => U36.trans (I.o2 (D2.symm.trans h))), o3 := (fun h => U37.trans (I.o3 (D3.symm.trans h))), o5 := (fun _ => U39), o8 := (fun h => U42.trans (I.o8 (D8.symm.trans h))), o9 := (fun h => U43.trans (I.o9 (D9.symm.trans h))), o10 := (fun h => U44.trans (I.o10 (D10.symm.trans h))), o13 := (fun h => U5.trans (I.o13 (D13.symm.trans h))), o6 := (fun h0 h1 => by rw [U40]; exact I.o6 (D6.symm.trans h0) (D7.symm.trans h1)), r0 := (fun h0 h1 => by rw [U34]; exact I.r0 (D0.symm.trans h0) (D4.symm.trans h1)), r4 := (fun h0 h1 => by rw [U38]; exact I.r4 (D4.symm.trans h0) (D7.symm.trans h1)), r7 := (fun h0 h1 => by rw [U41]; exact I.r7 (D7.symm.trans h0) (D11.symm.trans h1)), r11 := (fun h0 => by rw [U45]; exact I.r11 (D11.symm.trans h0)), s0 := (fun h0 h1 h2 h3 => by rw [U34, U40]; exact I.s0 (D0.symm.trans h0) (D4.symm.trans h1) (D6.symm.trans h2) (D7.symm.trans h3)), s4 := (fun h0 h1 h2 => by rw [U38, U40]; exact I.s4 (D4.symm.trans h0) (D7.symm.trans h1) (D6.symm.trans h2)), o12 := (fun h => by rw [U4, U45, D11]; exact I.o12 (D12.symm.trans h)), i7 := (fun h => D4.trans (I.i7 (D7.symm.trans h))), i11 := (fun h => D7.trans (I.i11 (D11.symm.trans h))) }⟩
          · skip
            have DO : ∀ n, 6 ≠ n → (d.setIfInBounds 6 true).getD n false = d.getD n false := fun n h => getD_set_ne false h
            have D6 : (d.setIfInBounds 6 true).getD 6 false = true := getD_set_sameE hun
            have D0 := DO 0 (by decide)
            have D1 := DO 1 (by decide)
            have D2 := DO 2 (by decide)
            have D3 := DO 3 (by decide)
            have D4 := DO 4 (by decide)
            have D5 := DO 5 (by decide)
            have D7 := DO 7 (by decide)
            have D8 := DO 8 (by decide)
            have D9 := DO 9 (by decide)
            have D10 := DO 10 (by decide)
            have D11 := DO 11 (by decide)
            have D12 := DO 12 (by decide)
            have D13 := DO 13 (by decide)
            have e39 := I.o5 (hall ⟨5, .data⟩ (by simp) rfl)
            have UO : ∀ n, n ≠ 40 → updAE us 40 (.slice (some ⟨W.heap.size, 0, none⟩) 1 1) n = us n := fun n h => upd_otherE h
            have U40 : updAE us 40 (.slice (some ⟨W.heap.size, 0, none⟩) 1 1) 40 = (.slice (some ⟨W.heap.size, 0, none⟩) 1 1) := upd_sameE _ _ _
            have U0 := UO 0 (by decide)
            have U3 := UO 3 (by decide)
            have U6 := UO 6 (by decide)
            have U4 := UO 4 (by decide)
            have U5 := UO 5 (by decide)
            have U34 := UO 34 (by decide)
            have U35 := UO 35 (by decide)
            have U36 := UO 36 (by decide)
            have U37 := UO 37 (by decide)
            have U38 := UO 38 (by decide)
            have U39 := UO 39 (by decide)
            have U41 := UO 41 (by decide)
            have U42 := UO 42 (by decide)
            have U43 := UO 43 (by decide)
            have U44 := UO 44 (by decide)
            have U45 := UO 45 (by decide)
            refine wpOp_step rfl (fun K hK => ?_)
            simp only [frAE, e0, e3, e6, e39]
            go_simp
            refine hK _ _ ⟨updAE us 40 (.slice (some ⟨W.heap.size, 0, none⟩) 1 1), by simp [frAE, updAE, e0, e3, e6, e39], { u0 := (U0.trans I.u0), u3 := (U3.trans I.u3), u6 := (U6.trans I.u6), bel := (I.bel.alloc hsz _), o1 := (fun h => U35.trans (I.o1 (D1.symm.trans h))), o2 := (fun h => U36.trans (I.o2 (D2.symm.trans h))), o3 := (fun h => U37.trans (I.o3 (D3.symm.trans h))), o5 := (fun h => U39.trans (I.o5 (D5.symm.trans h))), o8 := (fun h => U42.trans (I.o8 (D8.symm.trans h))), o9 := (fun h => U43.trans (I.o9 (D9.symm.trans h))), o10 := (fun h => U44.trans (I.o10 (D10.symm.trans h))), o13 := (fun h => U5.trans (I.o13 (D13.symm.trans h))), o6 := (fun _ _ => by rw [U40]; exact ⟨_, rfl, heap_alloc_new W _, hsz⟩), r0 := (fun h0 h1 => by rw [U34]; exact (I.r0 (D0.symm.trans h0) (D4.symm.trans h1)).below (below_alloc _ _)), r4 := (fun h0 h1 => by rw [U38]; exact (I.r4 (D4.symm.trans h0) (D7.symm.trans h1)).below (below_alloc _ _)), r7 := (fun h0 h1 => by rw [U41]; exact (I.r7 (D7.symm.trans h0) (D11.symm.trans h1)).below (below_alloc _ _)), r11 := (fun h0 => by rw [U45]; exact (I.r11 (D11.symm.trans h0)).below (below_alloc _ _)), s0 := (fun h0 h1 h2 h3 => by rw [U34, U40]; exact sep_ltE fun k hk => (I.r0 (D0.symm.trans h0) (D4.symm.trans h1)).lt hk), s4 := (fun h0 h1 h2 => by rw [U38, U40]; exact sep_ltE fun k hk => (I.r4 (D4.symm.trans h0) (D7.symm.trans h1)).lt hk), o12 := (fun h => by rw [U4, U45, D11]; exact I.o12 (D12.symm.trans h)), i7 := (fun h => D4.trans (I.i7 (D7.symm.trans h))), i11 := (fun h => D7.trans (I.i11 (D11.symm.trans h))) }⟩
          · skip
            have DO : ∀ n, 7 ≠ n → (d.setIfInBounds 7 true).getD n false = d.getD n false := fun n h => getD_set_ne false h
            have D7 : (d.setIfInBounds 7 true).getD 7 false = true := getD_set_sameE hun
            have D0 := DO 0 (by decide)
            have D1 := DO 1 (by decide)
            have D2 := DO 2 (by decide)
            have D3 := DO 3 (by decide)
            have D4 := DO 4 (by decide)
            have D5 := DO 5 (by decide)
            have D6 := DO 6 (by decide)
            have D8 := DO 8 (by decide)
            have D9 := DO 9 (by decide)
            have D10 := DO 10 (by decide)
            have D11 := DO 11 (by decide)
            have D12 := DO 12 (by decide)
            have D13 := DO 13 (by decide)
            have h44 := hall ⟨4, .data⟩ (by simp) rfl
            obtain ⟨B, e40, hRB⟩ := (I.o6 (hall ⟨6, .data⟩ (by simp) rfl) (getD_tfE hun)).row
            have hRow := I.r4 (hall ⟨4, .data⟩ (by simp) rfl) (getD_tfE hun)
            refine wpOp_append_evt rfl rfl (.tmp 38) (.tmp 40) rfl wq.heap.size (us 38) (([] : List Evt)) rfl hRow (some ⟨B, 0, none⟩) 1 [x] e40 hRB (.inr ⟨_, _, rfl⟩) (by simp [hl1, hl3] <;> omega) hsz ?_
            intro v W2 hR2 hB hg hv
            have UO : ∀ n, n ≠ 41 → updAE us 41 (v) n = us n := fun n h => upd_otherE h
            have U41 : updAE us 41 (v) 41 = (v) := upd_sameE _ _ _
            have U0 := UO 0 (by decide)
            have U3 := UO 3 (by decide)
            have U6 := UO 6 (by decide)
            have U4 := UO 4 (by decide)
            have U5 := UO 5 (by decide)
            have U34 := UO 34 (by decide)
            have U35 := UO 35 (by decide)
            have U36 := UO 36 (by decide)
            have U37 := UO 37 (by decide)
            have U38 := UO 38 (by decide)
            have U39 := UO 39 (by decide)
            have U40 := UO 40 (by decide)
            have U42 := UO 42 (by decide)
            have U43 := UO 43 (by decide)
            have U44 := UO 44 (by decide)
            have U45 := UO 45 (by decide)
            refine ⟨updAE us 41 v, by simp [frAE, updAE, Act.put], { u0 := (U0.trans I.u0), u3 := (U3.trans I.u3), u6 := (U6.trans I.u6), bel := (I.bel.trans hB), o1 := (fun h => U35.trans (I.o1 (D1.symm.trans h))), o2 := (fun h => U36.trans (I.o2 (D2.symm.trans h))), o3 := (fun h => U37.trans (I.o3 (D3.symm.trans h))), o5 := (fun h => U39.trans (I.o5 (D5.symm.trans h))), o8 := (fun h => U42.trans (I.o8 (D8.symm.trans h))), o9 := (fun h => U43.trans (I.o9 (D9.symm.trans h))), o10 := (fun h => U44.trans (I.o10 (D10.symm.trans h))), o13 := (fun h => U5.trans (I.o13 (D13.symm.trans h))), o6 := (fun h0 h1 => by rw [D7] at h1; cases h1), r0 := (fun h0 h1 => absurd h44 (by rw [D4.symm.trans h1]; exact Bool.false_ne_true)), r4 := (fun h0 h1 => by rw [D7] at h1; cases h1), r7 := (fun _ _ => by rw [U41]; exact hR2), r11 := (fun h0 => absurd (I.i11 (D11.symm.trans h0)) (by rw [getD_tfE hun]; exact Bool.false_ne_true)), s0 := (fun h0 h1 h2 h3 => by rw [D7] at h3; cases h3), s4 := (fun h0 h1 h2 => by rw [D7] at h1; cases h1), o12 := (fun h => by rw [U4, U45, D11]; exact I.o12 (D12.symm.trans h)), i7 := (fun _ => D4.trans h44), i11 := (fun _ => D7) }⟩
          · skip
            have DO : ∀ n, 8 ≠ n → (d.setIfInBounds 8 true).getD n false = d.getD n false := fun n h => getD_set_ne false h
            have D8 : (d.setIfInBounds 8 true).getD 8 false = true := getD_set_sameE hun
            have D0 := DO 0 (by decide)
            have D1 := DO 1 (by decide)
            have D2 := DO 2 (by decide)
            have D3 := DO 3 (by decide)
            have D4 := DO 4 (by decide)
            have D5 := DO 5 (by decide)
            have D6 := DO 6 (by decide)
            have D7 := DO 7 (by decide)
            have D9 := DO 9 (by decide)
            have D10 := DO 10 (by decide)
            have D11 := DO 11 (by decide)
            have D12 := DO 12 (by decide)
            have D13 := DO 13 (by decide)
            have UO : ∀ n, n ≠ 42 → updAE us 42 (.slice (none) 0 0) n = us n := fun n h => upd_otherE h
            have U42 : updAE us 42 (.slice (none) 0 0) 42 = (.slice (none) 0 0) := upd_sameE _ _ _
            have U0 := UO 0 (by decide)
            have U3 := UO 3 (by decide)
            have U6 := UO 6 (by decide)
            have U4 := UO 4 (by decide)
            have U5 := UO 5 (by decide)
            have U34 := UO 34 (by decide)
            have U35 := UO 35 (by decide)
            have U36 := UO 36 (by decide)
            have U37 := UO 37 (by decide)
            have U38 := UO 38 (by decide)
            have U39 := UO 39 (by decide)
            have U40 := UO 40 (by decide)
            have U41 := UO 41 (by decide)
            have U43 := UO 43 (by decide)
            have U44 := UO 44 (by decide)
            have U45 := UO 45 (by decide)
            refine wpOp_step rfl (fun K hK => ?_)
            simp only [frAE, e0, e3, e6]
            go_simp
            refine hK _ _ ⟨updAE us 42 (.slice (none) 0 0), by simp [frAE, updAE, e0, e3, e6], { u0 := (U0.trans I.u0), u3 := (U3.trans I.u3), u6 := (U6.trans I.u6), bel := (I.bel), o1 := (fun h => U35.trans (I.o1 (D1.symm.trans h))), o2 := (fun h => U36.trans (I.o2 (D2.symm.trans h))), o3 := (fun h => U37.trans (I.o3 (D3.symm.trans h))), o5 := (fun h => U39.trans (I.o5 (D5.symm.trans h))), o8 := (fun _ => U42), o9 := (fun h => U43.trans (I.o9 (D9.symm.trans h))), o10 := (fun h => U44.trans (I.o10 (D10.symm.trans h))), o13 := (fun h => U5.trans (I.o13 (D13.symm.trans h))), o6 := (fun h0 h1 => by rw [U40]; exact I.o6 (D6.symm.trans h0) (D7.symm.trans h1)), r0 := (fun h0 h1 => by rw [U34]; exact I.r0 (D0.symm.trans h0) (D4.symm.trans h1)), r4 := (fun h0 h1 => by rw [U38]; exact I.r4 (D4.symm.trans h0) (D7.symm.trans h1)), r7 := (fun h0 h1 => by rw [U41]; exact I.r7 (D7.symm.trans h0) (D11.symm.trans h1)), r11 := (fun h0 => by rw [U45]; exact I.r11 (D11.symm.trans h0)), s0 := (fun h0 h1 h2 h3 => by rw [U34, U40]; exact I.s0 (D0.symm.trans h0) (D4.symm.trans h1) (D6.symm.trans h2) (D7.symm.trans h3)), s4 := (fun h0 h1 h2 => by rw [U38, U40]; exact I.s4 (D4.symm.trans h0) (D7.symm.trans h1) (D6.symm.trans h2)), o12 := (fun h => by rw [U4, U45, D11]; exact I.o12 (D12.symm.trans h)), i7 := (fun h => D4.trans (I.i7 (D7.symm.trans h))), i11 := (fun h => D7.trans (I.i11 (D11.symm.trans h))) }⟩
          · skip
            have DO : ∀ n, 9 ≠ n → (d.setIfInBounds 9 true).getD n false = d.getD n false := fun n h => getD_set_ne false h
            have D9 : (d.setIfInBounds 9 true).getD 9 false = true := getD_set_sameE hun
            have D0 := DO 0 (by decide)
            have D1 := DO 1 (by decide)
            have D2 := DO 2 (by decide)
            have D3 := DO 3 (by decide)
            have D4 := DO 4 (by decide)
            have D5 := DO 5 (by decide)
            have D6 := DO 6 (by decide)
            have D7 := DO 7 (by decide)
            have D8 := DO 8 (by decide)
            have D10 := DO 10 (by decide)
            have D11 := DO 11 (by decide)
            have D12 := DO 12 (by decide)
            have D13 := DO 13 (by decide)
            have UO : ∀ n, n ≠ 43 → updAE us 43 (.int .i64 ((0 : Nat) : Int)) n = us n := fun n h => upd_otherE h
            have U43 : updAE us 43 (.int .i64 ((0 : Nat) : Int)) 43 = (.int .i64 ((0 : Nat) : Int)) := upd_sameE _ _ _
            have U0 := UO 0 (by decide)
            have U3 := UO 3 (by decide)
            have U6 := UO 6 (by decide)
            have U4 := UO 4 (by decide)
            have U5 := UO 5 (by decide)
            have U34 := UO 34 (by decide)
            have U35 := UO 35 (by decide)
            have U36 := UO 36 (by decide)
            have U37 := UO 37 (by decide)
            have U38 := UO 38 (by decide)
            have U39 := UO 39 (by decide)
            have U40 := UO 40 (by decide)
            have U41 := UO 41 (by decide)
            have U42 := UO 42 (by decide)
            have U44 := UO 44 (by decide)
            have U45 := UO 45 (by decide)
            refine wpOp_step rfl (fun K hK => ?_)
            simp only [frAE, e0, e3, e6]
            go_simp
            refine hK _ _ ⟨updAE us 43 (.int .i64 ((0 : Nat) : Int)), by simp [frAE, updAE, e0, e3, e6], { u0 := (U0.trans I.u0), u3 := (U3.trans I.u3), u6 := (U6.trans I.u6), bel := (I.bel), o1 := (fun h => U35.trans (I.o1 (D1.symm.trans h))), o2 := (fun h => U36.trans (I.o2 (D2.symm.trans h))), o3 := (fun h => U37.trans (I.o3 (D3.symm.trans h))), o5 := (fun h => U39.trans (I.o5 (D5.symm.trans h))), o8 := (fun h => U42.trans (I.o8 (D8.symm.trans h))), o9 := (fun _ => U43), o10 := (fun h => U44.trans (I.o10 (D10.symm.trans h))), o13 := (fun h => U5.trans (I.o13 (D13.symm.trans h))), o6 := (fun h0 h1 => by rw [U40]; exact I.o6 (D6.symm.trans h0) (D7.symm.trans h1)), r0 := (fun h0 h1 => by rw [U34]; exact I.r0 (D0.symm.trans h0) (D4.symm.trans h1)), r4 := (fun h0 h1 => by rw [U38]; exact I.r4 (D4.symm.trans h0) (D7.symm.trans h1)), r7 := (fun h0 h1 => by rw [U41]; exact I.r7 (D7.symm.trans h0) (D11.symm.trans h1)), r11 := (fun h0 => by rw [U45]; exact I.r11 (D11.symm.trans h0)), s0 := (fun h0 h1 h2 h3 => by rw [U34, U40]; exact I.s0 (D0.symm.trans h0) (D4.symm.trans h1) (D6.symm.trans h2) (D7.symm.trans h3)), s4 := (fun h0 h1 h2 => by rw [U38, U40]; exact I.s4 (D4.symm.trans h0) (D7.symm.trans h1) (D6.symm.trans h2)), o12 := (fun h => by rw [U4, U45, D11]; exact I.o12 (D12.symm.trans h)), i7 := (fun h => D4.trans (I.i7 (D7.symm.trans h))), i11 := (fun h => D7.trans (I.i11 (D11.symm.trans h))) }⟩
          · skip
            have DO : ∀ n, 10 ≠ n → (d.setIfInBounds 10 true).getD n false = d.getD n false := fun n h => getD_set_ne false h
            have D10 : (d.setIfInBounds 10 true).getD 10 false = true := getD_set_sameE hun
            have D0 := DO 0 (by decide)
            have D1 := DO 1 (by decide)
            have D2 := DO 2 (by decide)
            have D3 := DO 3 (by decide)
            have D4 := DO 4 (by decide)
            have D5 := DO 5 (by decide)
            have D6 := DO 6 (by decide)
            have D7 := DO 7 (by decide)
            have D8 := DO 8 (by decide)
            have D9 := DO 9 (by decide)
            have D11 := DO 11 (by decide)
            have D12 := DO 12 (by decide)
            have D13 := DO 13 (by decide)
            have e42 := I.o8 (hall ⟨8, .data⟩ (by simp) rfl)
            have e43 := I.o9 (hall ⟨9, .data⟩ (by simp) rfl)
            have UO : ∀ n, n ≠ 44 → updAE us 44 (.slice none 0 0) n = us n := fun n h => upd_otherE h
            have U44 : updAE us 44 (.slice none 0 0) 44 = (.slice none 0 0) := upd_sameE _ _ _
            have U0 := UO 0 (by decide)
            have U3 := UO 3 (by decide)
            have U6 := UO 6 (by decide)
            have U4 := UO 4 (by decide)
            have U5 := UO 5 (by decide)
            have U34 := UO 34 (by decide)
            have U35 := UO 35 (by decide)
            have U36 := UO 36 (by decide)
            have U37 := UO 37 (by decide)
            have U38 := UO 38 (by decide)
            have U39 := UO 39 (by decide)
            have U40 := UO 40 (by decide)
            have U41 := UO 41 (by decide)
            have U42 := UO 42 (by decide)
            have U43 := UO 43 (by decide)
            have U45 := UO 45 (by decide)
            refine wpOp_step rfl (fun K hK => ?_)
            simp only [frAE, e0, e3, e6, e42, e43]
            go_simp
            try (rw [if_pos (by omega)]; go_simp)
            refine hK _ _ ⟨updAE us 44 (.slice none 0 0), by simp [frAE, updAE, e0, e3, e6, e42, e43], { u0 := (U0.trans I.u0), u3 := (U3.trans I.u3), u6 := (U6.trans I.u6), bel := (I.bel), o1 := (fun h => U35.trans (I.o1 (D1.symm.trans h))), o2 := (fun h => U36.trans (I.o2 (D2.symm.trans h))), o3 := (fun h => U37.trans (I.o3 (D3.symm.trans h))), o5 := (fun h => U39.trans (I.o5 (D5.symm.trans h))), o8 := (fun h => U42.trans (I.o8 (D8.symm.trans h))), o9 := (fun h => U43.trans (I.o9 (D9.symm.trans h))), o10 := (fun _ => U44), o13 := (fun h => U5.trans (I.o13 (D13.symm.trans h))), o6 := (fun h0 h1 => by rw [U40]; exact I.o6 (D6.symm.trans h0) (D7.symm.trans h1)), r0 := (fun h0 h1 => by rw [U34]; exact I.r0 (D0.symm.trans h0) (D4.symm.trans h1)), r4 := (fun h0 h1 => by rw [U38]; exact I.r4 (D4.symm.trans h0) (D7.symm.trans h1)), r7 := (fun h0 h1 => by rw [U41]; exact I.r7 (D7.symm.trans h0) (D11.symm.trans h1)), r11 := (fun h0 => by rw [U45]; exact I.r11 (D11.symm.trans h0)), s0 := (fun h0 h1 h2 h3 => by rw [U34, U40]; exact I.s0 (D0.symm.trans h0) (D4.symm.trans h1) (D6.symm.trans h2) (D7.symm.trans h3)), s4 := (fun h0 h1 h2 => by rw [U38, U40]; exact I.s4 (D4.symm.trans h0) (D7.symm.trans h1) (D6.symm.trans h2)), o12 := (fun h => by rw [U4, U45, D11]; exact I.o12 (D12.symm.trans h)), i7 := (fun h => D4.trans (I.i7 (D7.symm.trans h))), i11 := (fun h => D7.trans (I.i11 (D11.symm.trans h))) }⟩
          · skip
            have DO : ∀ n, 11 ≠ n → (d.setIfInBounds 11 true).getD n false = d.getD n false := fun n h => getD_set_ne false h
            have D11 : (d.setIfInBounds 11 true).getD 11 false = true := getD_set_sameE hun
            have D0 := DO 0 (by decide)
            have D1 := DO 1 (by decide)
            have D2 := DO 2 (by decide)
            have D3 := DO 3 (by decide)
            have D4 := DO 4 (by decide)
            have D5 := DO 5 (by decide)
            have D6 := DO 6 (by decide)
            have D7 := DO 7 (by decide)
            have D8 := DO 8 (by decide)
            have D9 := DO 9 (by decide)
            have D10 := DO 10 (by decide)
            have D12 := DO 12 (by decide)
            have D13 := DO 13 (by decide)
            have e44 := I.o10 (hall ⟨10, .data⟩ (by simp) rfl)
            have h77 := hall ⟨7, .data⟩ (by simp) rfl
            have hRow := I.r7 (hall ⟨7, .data⟩ (by simp) rfl) (getD_tfE hun)
            refine wpOp_append_evt rfl rfl (.tmp 41) (.tmp 44) rfl wq.heap.size (us 41) (([] : List Evt) ++ [x]) rfl hRow (none) (0) (([] : List Evt)) (by show us 44 = _; rw [e44] <;> simp [hl3]) (q3.below I.bel) (.inl rfl) (by simp [hl1, hl3] <;> omega) hsz ?_
            intro v W2 hR2 hB hg hv
            have UO : ∀ n, n ≠ 45 → updAE us 45 (v) n = us n := fun n h => upd_otherE h
            have U45 : updAE us 45 (v) 45 = (v) := upd_sameE _ _ _
            have U0 := UO 0 (by decide)
            have U3 := UO 3 (by decide)
            have U6 := UO 6 (by decide)
            have U4 := UO 4 (by decide)
            have U5 := UO 5 (by decide)
            have U34 := UO 34 (by decide)
            have U35 := UO 35 (by decide)
            have U36 := UO 36 (by decide)
            have U37 := UO 37 (by decide)
            have U38 := UO 38 (by decide)
            have U39 := UO 39 (by decide)
            have U40 := UO 40 (by decide)
            have U41 := UO 41 (by decide)
            have U42 := UO 42 (by decide)
            have U43 := UO 43 (by decide)
            have U44 := UO 44 (by decide)
            refine ⟨updAE us 45 v, by simp [frAE, updAE, Act.put], { u0 := (U0.trans I.u0), u3 := (U3.trans I.u3), u6 := (U6.trans I.u6), bel := (I.bel.trans hB), o1 := (fun h => U35.trans (I.o1 (D1.symm.trans h))), o2 := (fun h => U36.trans (I.o2 (D2.symm.trans h))), o3 := (fun h => U37.trans (I.o3 (D3.symm.trans h))), o5 := (fun h => U39.trans (I.o5 (D5.symm.trans h))), o8 := (fun h => U42.trans (I.o8 (D8.symm.trans h))), o9 := (fun h => U43.trans (I.o9 (D9.symm.trans h))), o10 := (fun h => U44.trans (I.o10 (D10.symm.trans h))), o13 := (fun h => U5.trans (I.o13 (D13.symm.trans h))), o6 := (fun h0 h1 => absurd h77 (by rw [D7.symm.trans h1]; exact Bool.false_ne_true)), r0 := (fun h0 h1 => absurd (I.i7 h77) (by rw [D4.symm.trans h1]; exact Bool.false_ne_true)), r4 := (fun h0 h1 => absurd h77 (by rw [D7.symm.trans h1]; exact Bool.false_ne_true)), r7 := (fun h0 h1 => by rw [D11] at h1; cases h1), r11 := (fun _ => by rw [U45]; exact hR2), s0 := (fun h0 h1 h2 h3 => by rw [U34, U40]; exact I.s0 (D0.symm.trans h0) (D4.symm.trans h1) (D6.symm.trans h2) (D7.symm.trans h3)), s4 := (fun h0 h1 h2 => by rw [U38, U40]; exact I.s4 (D4.symm.trans h0) (D7.symm.trans h1) (D6.symm.trans h2)), o12 := (fun h => absurd (I.o12 (D12.symm.trans h)).2 (by rw [getD_tfE hun]; exact Bool.false_ne_true)), i7 := (fun h => D4.trans (I.i7 (D7.symm.trans h))), i11 := (fun _ => D7.trans h77) }⟩
          · skip
            have DO : ∀ n, 12 ≠ n → (d.setIfInBounds 12 true).getD n false = d.getD n false := fun n h => getD_set_ne false h
            have D12 : (d.setIfInBounds 12 true).getD 12 false = true := getD_set_sameE hun
            have D0 := DO 0 (by decide)
            have D1 := DO 1 (by decide)
            have D2 := DO 2 (by decide)
            have D3 := DO 3 (by decide)
            have D4 := DO 4 (by decide)
            have D5 := DO 5 (by decide)
            have D6 := DO 6 (by decide)
            have D7 := DO 7 (by decide)
            have D8 := DO 8 (by decide)
            have D9 := DO 9 (by decide)
            have D10 := DO 10 (by decide)
            have D11 := DO 11 (by decide)
            have D13 := DO 13 (by decide)
            have h11 := hall ⟨11, .data⟩ (by simp) rfl
            have UO : ∀ n, n ≠ 4 → updAE us 4 (us 45) n = us n := fun n h => upd_otherE h
            have U4 : updAE us 4 (us 45) 4 = (us 45) := upd_sameE _ _ _
            have U0 := UO 0 (by decide)
            have U3 := UO 3 (by decide)
            have U6 := UO 6 (by decide)
            have U5 := UO 5 (by decide)
            have U34 := UO 34 (by decide)
            have U35 := UO 35 (by decide)
            have U36 := UO 36 (by decide)
            have U37 := UO 37 (by decide)
            have U38 := UO 38 (by decide)
            have U39 := UO 39 (by decide)
            have U40 := UO 40 (by decide)
            have U41 := UO 41 (by decide)
            have U42 := UO 42 (by decide)
            have U43 := UO 43 (by decide)
            have U44 := UO 44 (by decide)
            have U45 := UO 45 (by decide)
            refine wpOp_step rfl (fun K hK => ?_)
            simp only [frAE, e0, e3, e6]
            go_simp
            refine hK _ _ ⟨updAE us 4 (us 45), by simp [frAE, updAE, e0, e3, e6], { u0 := (U0.trans I.u0), u3 := (U3.trans I.u3), u6 := (U6.trans I.u6), bel := (I.bel), o1 := (fun h => U35.trans (I.o1 (D1.symm.trans h))), o2 := (fun h => U36.trans (I.o2 (D2.symm.trans h))), o3 := (fun h => U37.trans (I.o3 (D3.symm.trans h))), o5 := (fun h => U39.trans (I.o5 (D5.symm.trans h))), o8 := (fun h => U42.trans (I.o8 (D8.symm.trans h))), o9 := (fun h => U43.trans (I.o9 (D9.symm.trans h))), o10 := (fun h => U44.trans (I.o10 (D10.symm.trans h))), o13 := (fun h => U5.trans (I.o13 (D13.symm.trans h))), o6 := (fun h0 h1 => by rw [U40]; exact I.o6 (D6.symm.trans h0) (D7.symm.trans h1)), r0 := (fun h0 h1 => by rw [U34]; exact I.r0 (D0.symm.trans h0) (D4.symm.trans h1)), r4 := (fun h0 h1 => by rw [U38]; exact I.r4 (D4.symm.trans h0) (D7.symm.trans h1)), r7 := (fun h0 h1 => by rw [U41]; exact I.r7 (D7.symm.trans h0) (D11.symm.trans h1)), r11 := (fun h0 => by rw [U45]; exact I.r11 (D11.symm.trans h0)), s0 := (fun h0 h1 h2 h3 => by rw [U34, U40]; exact I.s0 (D0.symm.trans h0) (D4.symm.trans h1) (D6.symm.trans h2) (D7.symm.trans h3)), s4 := (fun h0 h1 h2 => by rw [U38, U40]; exact I.s4 (D4.symm.trans h0) (D7.symm.trans h1) (D6.symm.trans h2)), o12 := (fun _ => ⟨by rw [U4, U45], by rw [D11]; exact h11⟩), i7 := (fun h => D4.trans (I.i7 (D7.symm.trans h))), i11 := (fun h => D7.trans (I.i11 (D11.symm.trans h))) }⟩
          · skip
            have DO : ∀ n, 13 ≠ n → (d.setIfInBounds 13 true).getD n false = d.getD n false := fun n h => getD_set_ne false h
            have D13 : (d.setIfInBounds 13 true).getD 13 false = true := getD_set_sameE hun
            have D0 := DO 0 (by decide)
            have D1 := DO 1 (by decide)
            have D2 := DO 2 (by decide)
            have D3 := DO 3 (by decide)
            have D4 := DO 4 (by decide)
            have D5 := DO 5 (by decide)
            have D6 := DO 6 (by decide)
            have D7 := DO 7 (by decide)
            have D8 := DO 8 (by decide)
            have D9 := DO 9 (by decide)
            have D10 := DO 10 (by decide)
            have D11 := DO 11 (by decide)
            have D12 := DO 12 (by decide)
            have UO : ∀ n, n ≠ 5 → updAE us 5 (.int .i64 0) n = us n := fun n h => upd_otherE h
            have U5 : updAE us 5 (.int .i64 0) 5 = (.int .i64 0) := upd_sameE _ _ _
            have U0 := UO 0 (by decide)
            have U3 := UO 3 (by decide)
            have U6 := UO 6 (by decide)
            have U4 := UO 4 (by decide)
            have U34 := UO 34 (by decide)
            have U35 := UO 35 (by decide)
            have U36 := UO 36 (by decide)
            have U37 := UO 37 (by decide)
            have U38 := UO 38 (by decide)
            have U39 := UO 39 (by decide)
            have U40 := UO 40 (by decide)
            have U41 := UO 41 (by decide)
            have U42 := UO 42 (by decide)
            have U43 := UO 43 (by decide)
            have U44 := UO 44 (by decide)
            have U45 := UO 45 (by decide)
            refine wpOp_step rfl (fun K hK => ?_)
            simp only [frAE, e0, e3, e6]
            go_simp
            refine hK _ _ ⟨updAE us 5 (.int .i64 0), by simp [frAE, updAE, e0, e3, e6], { u0 := (U0.trans I.u0), u3 := (U3.trans I.u3), u6 := (U6.trans I.u6), bel := (I.bel), o1 := (fun h => U35.trans (I.o1 (D1.symm.trans h))), o2 := (fun h => U36.trans (I.o2 (D2.symm.trans h))), o3 := (fun h => U37.trans (I.o3 (D3.symm.trans h))), o5 := (fun h => U39.trans (I.o5 (D5.symm.trans h))), o8 := (fun h => U42.trans (I.o8 (D8.symm.trans h))), o9 := (fun h => U43.trans (I.o9 (D9.symm.trans h))), o10 := (fun h => U44.trans (I.o10 (D10.symm.trans h))), o13 := (fun _ => U5), o6 := (fun h0 h1 => by rw [U40]; exact I.o6 (D6.symm.trans h0) (D7.symm.trans h1)), r0 := (fun h0 h1 => by rw [U34]; exact I.r0 (D0.symm.trans h0) (D4.symm.trans h1)), r4 := (fun h0 h1 => by rw [U38]; exact I.r4 (D4.symm.trans h0) (D7.symm.trans h1)), r7 := (fun h0 h1 => by rw [U41]; exact I.r7 (D7.symm.trans h0) (D11.symm.trans h1)), r11 := (fun h0 => by rw [U45]; exact I.r11 (D11.symm.trans h0)), s0 := (fun h0 h1 h2 h3 => by rw [U34, U40]; exact I.s0 (D0.symm.trans h0) (D4.symm.trans h1) (D6.symm.trans h2) (D7.symm.trans h3)), s4 := (fun h0 h1 h2 => by rw [U38, U40]; exact I.s4 (D4.symm.trans h0) (D7.symm.trans h1) (D6.symm.trans h2)), o12 := (fun h => by rw [U4, U45, D11]; exact I.o12 (D12.symm.trans h)), i7 := (fun h => D4.trans (I.i7 (D7.symm.trans h))), i11 := (fun h => D7.trans (I.i11 (D11.symm.trans h))) }⟩
        · intro d a W hd hall hI
          obtain ⟨us, rfl, I⟩ := hI
          have D : ∀ k, k < 14 → d.getD k false = true := fun k hk => by
            have := hall k hk
            have hk2 : k < d.size := by rw [hd]; exact hk
            simp [hk2] at this ⊢; exact this
          obtain ⟨h7, h11⟩ := I.o12 (D 12 (by decide))
          have h13 := I.o13 (D 13 (by decide))
          obtain ⟨O, q, e45, hO⟩ := I.r11 h11
          have e7 := h7.trans e45
          have hbel := I.bel
          rw [hjoin] at e7 hO
          clear I hall D h7 e45
          simp only [frAE, e7, h13]
          go_wp2_with fail
          go_ret2
          rw [HE.out]
          exact ⟨O, q, rfl, hO.mono hkq.bel.size, hkq.bel.trans (hbel.mono hkq.bel.size)⟩
      · by_cases hcc : ps.length = c
        · subst hcc
          rw [List.take_length, List.drop_length] at hjoin
          have q1 := hRq
          have q3 : EvtR wq (some ⟨g, off, none⟩) ([] : List Evt) := EvtR.none
          have hl1 : (ps).length = ps.length := by rfl
          have hl3 : (([] : List Evt)).length = 0 := by rfl
          refine region_inv (by kernel_rfl) (by kernel_rfl) (fun d a W => ∃ us, a = frAE us ∧ InvAE wq.heap.size (w.heap.size) (ps.length) (ps.length) (ps.length) (some ⟨g, off, none⟩) (.slice (some ⟨g, off, none⟩) ps.length ps.length) (.slice (some ⟨g, off, none⟩) 0 0) (ps) (([] : List Evt)) x wq d us W) ?_ ?_ ?_
          · refine ⟨_, frA_ofE, ?_⟩
            have Z : ∀ k, (Array.replicate 14 false).getD k false = false := fun k => by
              rcases Nat.lt_or_ge k 14 with h | h
              · simp [h]
              · simp [Array.getElem?_eq_none, h]
            have Zn : ∀ {k : Nat} {p : Prop}, (Array.replicate 14 false).getD k false = true → p := fun {k p} h => by rw [Z k] at h; cases h
            exact { u0 := rfl, u3 := rfl, u6 := rfl, bel := (Below.refl _ _).drew, o1 := Zn, o2 := Zn, o3 := Zn, o5 := Zn, o8 := Zn, o9 := Zn, o10 := Zn, o6 := Zn, r0 := Zn, r4 := Zn, r7 := Zn, r11 := Zn, s0 := Zn, s4 := Zn, o12 := Zn, o13 := Zn, i7 := Zn, i11 := Zn }
          · intro i d a W hi hI
            obtain ⟨hun, oi, hoi, hall⟩ := mem_ready.1 hi
            have hlt : i < 14 := (Array.getElem?_eq_some_iff.1 hoi).1
            obtain ⟨us, rfl, I⟩ := hI
            have hsz : wq.heap.size ≤ W.heap.size := I.bel.size
            have e0 := I.u0
            have e3 := I.u3
            have e6 := I.u6
            rcases (by omega : i = 0 ∨ i = 1 ∨ i = 2 ∨ i = 3 ∨ i = 4 ∨ i = 5 ∨ i = 6 ∨ i = 7 ∨ i = 8 ∨ i = 9 ∨ i = 10 ∨ i = 11 ∨ i = 12 ∨ i = 13) with rfl | rfl | rfl | rfl | rfl | rfl | rfl | rfl | rfl | rfl | rfl | rfl | rfl | rfl
            all_goals
              obtain rfl := Option.some.inj hoi
              clear hoi hlt hi
            · skip
              have DO : ∀ n, 0 ≠ n → (d.setIfInBounds 0 true).getD n false = d.getD n false := fun n h => getD_set_ne false h
              have D0 : (d.setIfInBounds 0 true).getD 0 false = true := getD_set_sameE hun
              have D1 := DO 1 (by decide)
              have D2 := DO 2 (by decide)
              have D3 := DO 3 (by decide)
              have D4 := DO 4 (by decide)
              have D5 := DO 5 (by decide)
              have D6 := DO 6 (by decide)
              have D7 := DO 7 (by decide)
              have D8 := DO 8 (by decide)
              have D9 := DO 9 (by decide)
              have D10 := DO 10 (by decide)
              have D11 := DO 11 (by decide)
              have D12 := DO 12 (by decide)
              have D13 := DO 13 (by decide)
              have UO : ∀ n, n ≠ 34 → updAE us 34 (.slice (some ⟨W.heap.size, 0, none⟩) 0 0) n = us n := fun n h => upd_otherE h
              have U34 : updAE us 34 (.slice (some ⟨W.heap.size, 0, none⟩) 0 0) 34 = (.slice (some ⟨W.heap.size, 0, none⟩) 0 0) := upd_sameE _ _ _
              have U0 := UO 0 (by decide)
              have U3 := UO 3 (by decide)
              have U6 := UO 6 (by decide)
              have U4 := UO 4 (by decide)
              have U5 := UO 5 (by decide)
              have U35 := UO 35 (by decide)
              have U36 := UO 36 (by decide)
              have U37 := UO 37 (by decide)
              have U38 := UO 38 (by decide)
              have U39 := UO 39 (by decide)
              have U40 := UO 40 (by decide)
              have U41 := UO 41 (by decide)
              have U42 := UO 42 (by decide)
              have U43 := UO 43 (by decide)
              have U44 := UO 44 (by decide)
              have U45 := UO 45 (by decide)
              refine wpOp_step rfl (fun K hK => ?_)
              simp only [frAE, e0, e3, e6]
              go_simp
              refine hK _ _ ⟨updAE us 34 (.slice (some ⟨W.heap.size, 0, none⟩) 0 0), by simp [frAE, updAE, e0, e3, e6], { u0 := (U0.trans I.u0), u3 := (U3.trans I.u3), u6 := (U6.trans I.u6), bel := (I.bel.alloc hsz _), o1 := (fun h => U35.trans (I.o1 (D1.symm.trans h))), o2 := (fun h => U36.trans (I.o2 (D2.symm.trans h))), o3 := (fun h => U37.trans (I.o3 (D3.symm.trans h))), o5 := (fun h => U39.trans (I.o5 (D5.symm.trans h))), o8 := (fun h => U42.trans (I.o8 (D8.symm.trans h))), o9 := (fun h => U43.trans (I.o9 (D9.symm.trans h))), o10 := (fun h => U44.trans (I.o10 (D10.symm.trans h))), o13 := (fun h => U5.trans (I.o13 (D13.symm.trans h))), o6 := (fun h0 h1 => by rw [U40]; exact (I.o6 (D6.symm.trans h0) (D7.symm.trans h1)).below (below_alloc _ _)), r0 := (fun h0 h1 => by rw [U34]; exact ⟨_, _, rfl, made0e _ _ _ _ hsz⟩), r4 := (fun h0 h1 => by rw [U38]; exact (I.r4 (D4.symm.trans h0) (D7.symm.trans h1)).below (below_alloc _ _)), r7 := (fun h0 h1 => by rw [U41]; exact (I.r7 (D7.symm.trans h0) (D11.symm.trans h1)).below (below_alloc _ _)), r11 := (fun h0 => by rw [U45]; exact (I.r11 (D11.symm.trans h0)).below (below_alloc _ _)), s0 := (fun h0 h1 h2 h3 => by rw [U34, U40]; exact sep_gtE fun k hk => (I.o6 (D6.symm.trans h2) (D7.symm.trans h3)).lt hk), s4 := (fun h0 h1 h2 => by rw [U38, U40]; exact I.s4 (D4.symm.trans h0) (D7.symm.trans h1) (D6.symm.trans h2)), o12 := (fun h => by rw [U4, U45, D11]; exact I.o12 (D12.symm.trans h)), i7 := (fun h => D4.trans (I.i7 (D7.symm.trans h))), i11 := (fun h => D7.trans (I.i11 (D11.symm.trans h))) }⟩
            · skip
              have DO : ∀ n, 1 ≠ n → (d.setIfInBounds 1 true).getD n false = d.getD n false := fun n h => getD_set_ne false h
              have D1 : (d.setIfInBounds 1 true).getD 1 false = true := getD_set_sameE hun
              have D0 := DO 0 (by decide)
              have D2 := DO 2 (by decide)
              have D3 := DO 3 (by decide)
              have D4 := DO 4 (by decide)
              have D5 := DO 5 (by decide)
              have D6 := DO 6 (by decide)
              have D7 := DO 7 (by decide)
              have D8 := DO 8 (by decide)
              have D9 := DO 9 (by decide)
              have D10 := DO 10 (by decide)
              have D11 := DO 11 (by decide)
              have D12 := DO 12 (by decide)
              have D13 := DO 13 (by decide)
              have UO : ∀ n, n ≠ 35 → updAE us 35 (.slice (some ⟨g, off, none⟩) ps.length ps.length) n = us n := fun n h => upd_otherE h
              have U35 : updAE us 35 (.slice (some ⟨g, off, none⟩) ps.length ps.length) 35 = (.slice (some ⟨g, off, none⟩) ps.length ps.length) := upd_sameE _ _ _
              have U0 := UO 0 (by decide)
              have U3 := UO 3 (by decide)
              have U6 := UO 6 (by decide)
              have U4 := UO 4 (by decide)
              have U5 := UO 5 (by decide)
              have U34 := UO 34 (by decide)
              have U36 := UO 36 (by decide)
              have U37 := UO 37 (by decide)
              have U38 := UO 38 (by decide)
              have U39 := UO 39 (by decide)
              have U40 := UO 40 (by decide)
              have U41 := UO 41 (by decide)
              have U42 := UO 42 (by decide)
              have U43 := UO 43 (by decide)
              have U44 := UO 44 (by decide)
              have U45 := UO 45 (by decide)
              refine wpOp_step rfl (fun K hK => ?_)
              simp only [frAE, e0, e3, e6]
              go_simp
              refine hK _ _ ⟨updAE us 35 (.slice (some ⟨g, off, none⟩) ps.length ps.length), by simp [frAE, updAE, e0, e3, e6], { u0 := (U0.trans I.u0), u3 := (U3.trans I.u3), u6 := (U6.trans I.u6), bel := (I.bel), o1 := (fun _ => U35), o2 := (fun h => U36.trans (I.o2 (D2.symm.trans h))), o3 := (fun h => U37.trans (I.o3 (D3.symm.trans h))), o5 := (fun h => U39.trans (I.o5 (D5.symm.trans h))), o8 := (fun h => U42.trans (I.o8 (D8.symm.trans h))), o9 := (fun h => U43.trans (I.o9 (D9.symm.trans h))), o10 := (fun h => U44.trans (I.o10 (D10.symm.trans h))), o13 := (fun h => U5.trans (I.o13 (D13.symm.trans h))), o6 := (fun h0 h1 => by rw [U40]; exact I.o6 (D6.symm.trans h0) (D7.symm.trans h1)), r0 := (fun h0 h1 => by rw [U34]; exact I.r0 (D0.symm.trans h0) (D4.symm.trans h1)), r4 := (fun h0 h1 => by rw [U38]; exact I.r4 (D4.symm.trans h0) (D7.symm.trans h1)), r7 := (fun h0 h1 => by rw [U41]; exact I.r7 (D7.symm.trans h0) (D11.symm.trans h1)), r11 := (fun h0 => by rw [U45]; exact I.r11 (D11.symm.trans h0)), s0 := (fun h0 h1 h2 h3 => by rw [U34, U40]; exact I.s0 (D0.symm.trans h0) (D4.symm.trans h1) (D6.symm.trans h2) (D7.symm.trans h3)), s4 := (fun h0 h1 h2 => by rw [U38, U40]; exact I.s4 (D4.symm.trans h0) (D7.symm.trans h1) (D6.symm.trans h2)), o12 := (fun h => by rw [U4, U45, D11]; exact I.o12 (D12.symm.trans h)), i7 := (fun h => D4.trans (I.i7 (D7.symm.trans h))), i11 := (fun h => D7.trans (I.i11 (D11.symm.trans h))) }⟩
            · skip
              have DO : ∀ n, 2 ≠ n → (d.setIfInBounds 2 true).getD n false = d.getD n false := fun n h => getD_set_ne false h
              have D2 : (d.setIfInBounds 2 true).getD 2 false = true := getD_set_sameE hun
              have D0 := DO 0 (by decide)
              have D1 := DO 1 (by decide)
              have D3 := DO 3 (by decide)
              have D4 := DO 4 (by decide)
              have D5 := DO 5 (by decide)
              have D6 := DO 6 (by decide)
              have D7 := DO 7 (by decide)
              have D8 := DO 8 (by decide)
              have D9 := DO 9 (by decide)
              have D10 := DO 10 (by decide)
              have D11 := DO 11 (by decide)
              have D12 := DO 12 (by decide)
              have D13 := DO 13 (by decide)
              have UO : ∀ n, n ≠ 36 → updAE us 36 (.int .i64 ((ps.length : Nat) : Int)) n = us n := fun n h => upd_otherE h
              have U36 : updAE us 36 (.int .i64 ((ps.length : Nat) : Int)) 36 = (.int .i64 ((ps.length : Nat) : Int)) := upd_sameE _ _ _
              have U0 := UO 0 (by decide)
              have U3 := UO 3 (by decide)
              have U6 := UO 6 (by decide)
              have U4 := UO 4 (by decide)
              have U5 := UO 5 (by decide)
              have U34 := UO 34 (by decide)
              have U35 := UO 35 (by decide)
              have U37 := UO 37 (by decide)
              have U38 := UO 38 (by decide)
              have U39 := UO 39 (by decide)
              have U40 := UO 40 (by decide)
              have U41 := UO 41 (by decide)
              have U42 := UO 42 (by decide)
              have U43 := UO 43 (by decide)
              have U44 := UO 44 (by decide)
              have U45 := UO 45 (by decide)
              refine wpOp_step rfl (fun K hK => ?_)
              simp only [frAE, e0, e3, e6]
              go_simp
              refine hK _ _ ⟨updAE us 36 (.int .i64 ((ps.length : Nat) : Int)), by simp [frAE, updAE, e0, e3, e6], { u0 := (U0.trans I.u0), u3 := (U3.trans I.u3), u6 := (U6.trans I.u6), bel := (I.bel), o1 := (fun h => U35.trans (I.o1 (D1.symm.trans h))), o2 := (fun _ => U36), o3 := (fun h => U37.trans (I.o3 (D3.symm.trans h))), o5 := (fun h => U39.trans (I.o5 (D5.symm.trans h))), o8 := (fun h => U42.trans (I.o8 (D8.symm.trans h))), o9 := (fun h => U43.trans (I.o9 (D9.symm.trans h))), o10 := (fun h => U44.trans (I.o10 (D10.symm.trans h))), o13 := (fun h => U5.trans (I.o13 (D13.symm.trans h))), o6 := (fun h0 h1 => by rw [U40]; exact I.o6 (D6.symm.trans h0) (D7.symm.trans h1)), r0 := (fun h0 h1 => by rw [U34]; exact I.r0 (D0.symm.trans h0) (D4.symm.trans h1)), r4 := (fun h0 h1 => by rw [U38]; exact I.r4 (D4.symm.trans h0) (D7.symm.trans h1)), r7 := (fun h0 h1 => by rw [U41]; exact I.r7 (D7.symm.trans h0) (D11.symm.trans h1)), r11 := (fun h0 => by rw [U45]; exact I.r11 (D11.symm.trans h0)), s0 := (fun h0 h1 h2 h3 => by rw [U34, U40]; exact I.s0 (D0.symm.trans h0) (D4.symm.trans h1) (D6.symm.trans h2) (D7.symm.trans h3)), s4 := (fun h0 h1 h2 => by rw [U38, U40]; exact I.s4 (D4.symm.trans h0) (D7.symm.trans h1) (D6.symm.trans h2)), o12 := (fun h => by rw [U4, U45, D11]; exact I.o12 (D12.symm.trans h)), i7 := (fun h => D4.trans (I.i7 (D7.symm.trans h))), i11 := (fun h => D7.trans (I.i11 (D11.symm.trans h))) }⟩
            · skip
              have DO : ∀ n, 3 ≠ n → (d.setIfInBounds 3 true).getD n false = d.getD n false := fun n h => getD_set_ne false h
              have D3 : (d.setIfInBounds 3 true).getD 3 false = true := getD_set_sameE hun
              have D0 := DO 0 (by decide)
              have D1 := DO 1 (by decide)
              have D2 := DO 2 (by decide)
              have D4 := DO 4 (by decide)
              have D5 := DO 5 (by decide)
              have D6 := DO 6 (by decide)
              have D7 := DO 7 (by decide)
              have D8 := DO 8 (by decide)
              have D9 := DO 9 (by decide)
              have D10 := DO 10 (by decide)
              have D11 := DO 11 (by decide)
              have D12 := DO 12 (by decide)
              have D13 := DO 13 (by decide)
              have e35 := I.o1 (hall ⟨1, .data⟩ (by simp) rfl)
              have e36 := I.o2 (hall ⟨2, .data⟩ (by simp) rfl)
              have UO : ∀ n, n ≠ 37 → updAE us 37 (.slice (some ⟨g, off, none⟩) ps.length ps.length) n = us n := fun n h => upd_otherE h
              have U37 : updAE us 37 (.slice (some ⟨g, off, none⟩) ps.length ps.length) 37 = (.slice (some ⟨g, off, none⟩) ps.length ps.length) := upd_sameE _ _ _
              have U0 := UO 0 (by decide)
              have U3 := UO 3 (by decide)
              have U6 := UO 6 (by decide)
              have U4 := UO 4 (by decide)
              have U5 := UO 5 (by decide)
              have U34 := UO 34 (by decide)
              have U35 := UO 35 (by decide)
              have U36 := UO 36 (by decide)
              have U38 := UO 38 (by decide)
              have U39 := UO 39 (by decide)
              have U40 := UO 40 (by decide)
              have U41 := UO 41 (by decide)
              have U42 := UO 42 (by decide)
              have U43 := UO 43 (by decide)
              have U44 := UO 44 (by decide)
              have U45 := UO 45 (by decide)
              refine wpOp_step rfl (fun K hK => ?_)
              simp only [frAE, e0, e3, e6, e35, e36]
              go_simp
              try (rw [if_pos (by omega)]; go_simp)
              refine hK _ _ ⟨updAE us 37 (.slice (some ⟨g, off, none⟩) ps.length ps.length), by simp [frAE, updAE, e0, e3, e6, e35, e36], { u0 := (U0.trans I.u0), u3 := (U3.trans I.u3), u6 := (U6.trans I.u6), bel := (I.bel), o1 := (fun h => U35.trans (I.o1 (D1.symm.trans h))), o2 := (fun h => U36.trans (I.o2 (D2.symm.trans h))), o3 := (fun _ => U37), o5 := (fun h => U39.trans (I.o5 (D5.symm.trans h))), o8 := (fun h => U42.trans (I.o8 (D8.symm.trans h))), o9 := (fun h => U43.trans (I.o9 (D9.symm.trans h))), o10 := (fun h => U44.trans (I.o10 (D10.symm.trans h))), o13 := (fun h => U5.trans (I.o13 (D13.symm.trans h))), o6 := (fun h0 h1 => by rw [U40]; exact I.o6 (D6.symm.trans h0) (D7.symm.trans h1)), r0 := (fun h0 h1 => by rw [U34]; exact I.r0 (D0.symm.trans h0) (D4.symm.trans h1)), r4 := (fun h0 h1 => by rw [U38]; exact I.r4 (D4.symm.trans h0) (D7.symm.trans h1)), r7 := (fun h0 h1 => by rw [U41]; exact I.r7 (D7.symm.trans h0) (D11.symm.trans h1)), r11 := (fun h0 => by rw [U45]; exact I.r11 (D11.symm.trans h0)), s0 := (fun h0 h1 h2 h3 => by rw [U34, U40]; exact I.s0 (D0.symm.trans h0) (D4.symm.trans h1) (D6.symm.trans h2) (D7.symm.trans h3)), s4 := (fun h0 h1 h2 => by rw [U38, U40]; exact I.s4 (D4.symm.trans h0) (D7.symm.trans h1) (D6.symm.trans h2)), o12 := (fun h => by rw [U4, U45, D11]; exact I.o12 (D12.symm.trans h)), i7 := (fun h => D4.trans (I.i7 (D7.symm.trans h))), i11 := (fun h => D7.trans (I.i11 (D11.symm.trans h))) }⟩
            · skip
              have DO : ∀ n, 4 ≠ n → (d.setIfInBounds 4 true).getD n false = d.getD n false := fun n h => getD_set_ne false h
              have D4 : (d.setIfInBounds 4 true).getD 4 false = true := getD_set_sameE hun
              have D0 := DO 0 (by decide)
              have D1 := DO 1 (by decide)
              have D2 := DO 2 (by decide)
              have D3 := DO 3 (by decide)
              have D5 := DO 5 (by decide)
              have D6 := DO 6 (by decide)
              have D7 := DO 7 (by decide)
              have D8 := DO 8 (by decide)
              have D9 := DO 9 (by decide)
              have D10 := DO 10 (by decide)
              have D11 := DO 11 (by decide)
              have D12 := DO 12 (by decide)
              have D13 := DO 13 (by decide)
              have e37 := I.o3 (hall ⟨3, .data⟩ (by simp) rfl)
              have h00 := hall ⟨0, .data⟩ (by simp) rfl
              have hRow := I.r0 (hall ⟨0, .data⟩ (by simp) rfl) (getD_tfE hun)
              refine wpOp_append_evt rfl rfl (.tmp 34) (.tmp 37) rfl wq.heap.size (us 34) [] rfl hRow (some ⟨g, off, none⟩) (ps.length) (ps) (by show us 37 = _; rw [e37] <;> simp [hl1]) (q1.below I.bel) (.inr ⟨_, _, rfl⟩) (by simp [hl1, hl3] <;> omega) hsz ?_
              intro v W2 hR2 hB hg hv
              have UO : ∀ n, n ≠ 38 → updAE us 38 (v) n = us n := fun n h => upd_otherE h
              have U38 : updAE us 38 (v) 38 = (v) := upd_sameE _ _ _
              have U0 := UO 0 (by decide)
              have U3 := UO 3 (by decide)
              have U6 := UO 6 (by decide)
              have U4 := UO 4 (by decide)
              have U5 := UO 5 (by decide)
              have U34 := UO 34 (by decide)
              have U35 := UO 35 (by decide)
              have U36 := UO 36 (by decide)
              have U37 := UO 37 (by decide)
              have U39 := UO 39 (by decide)
              have U40 := UO 40 (by decide)
              have U41 := UO 41 (by decide)
              have U42 := UO 42 (by decide)
              have U43 := UO 43 (by decide)
              have U44 := UO 44 (by decide)
              have U45 := UO 45 (by decide)
              refine ⟨updAE us 38 v, by simp [frAE, updAE, Act.put], { u0 := (U0.trans I.u0), u3 := (U3.trans I.u3), u6 := (U6.trans I.u6), bel := (I.bel.trans hB), o1 := (fun h => U35.trans (I.o1 (D1.symm.trans h))), o2 := (fun h => U36.trans (I.o2 (D2.symm.trans h))), o3 := (fun h => U37.trans (I.o3 (D3.symm.trans h))), o5 := (fun h => U39.trans (I.o5 (D5.symm.trans h))), o8 := (fun h => U42.trans (I.o8 (D8.symm.trans h))), o9 := (fun h => U43.trans (I.o9 (D9.symm.trans h))), o10 := (fun h => U44.trans (I.o10 (D10.symm.trans h))), o13 := (fun h => U5.trans (I.o13 (D13.symm.trans h))), o6 := (fun h0 h1 => by rw [U40]; exact (I.o6 (D6.symm.trans h0) (D7.symm.trans h1)).sep (I.s0 h00 (getD_tfE hun) (D6.symm.trans h0) (D7.symm.trans h1)) hg), r0 := (fun h0 h1 => by rw [D4] at h1; cases h1), r4 := (fun _ _ => by rw [U38]; simpa using hR2), r7 := (fun h0 h1 => absurd (I.i7 (D7.symm.trans h0)) (by rw [getD_tfE hun]; exact Bool.false_ne_true)), r11 := (fun h0 => absurd (I.i7 (I.i11 (D11.symm.trans h0))) (by rw [getD_tfE hun]; exact Bool.false_ne_true)), s0 := (fun h0 h1 h2 h3 => by rw [D4] at h1; cases h1), s4 := (fun h0 h1 h2 => by rw [U38, U40]; exact sep_appE (I.o6 (D6.symm.trans h2) (D7.symm.trans h1)) (I.s0 h00 (getD_tfE hun) (D6.symm.trans h2) (D7.symm.trans h1)) hv), o12 := (fun h => by rw [U4, U45, D11]; exact I.o12 (D12.symm.trans h)), i7 := (fun _ => D4), i11 := (fun h => D7.trans (I.i11 (D11.symm.trans h))) }⟩
            · skip
              have DO : ∀ n, 5 ≠ n → (d.setIfInBounds 5 true).getD n false = d.getD n false := fun n h => getD_set_ne false h
              have D5 : (d.setIfInBounds 5 true).getD 5 false = true := getD_set_sameE hun
              have D0 := DO 0 (by decide)
              have D1 := DO 1 (by decide)
              have D2 := DO 2 (by decide)
              have D3 := DO 3 (by decide)
              have D4 := DO 4 (by decide)
              have D6 := DO 6 (by decide)
              have D7 := DO 7 (by decide)
              have D8 := DO 8 (by decide)
              have D9 := DO 9 (by decide)
              have D10 := DO 10 (by decide)
              have D11 := DO 11 (by decide)
              have D12 := DO 12 (by decide)
              have D13 := DO 13 (by decide)
              have hbx := hbox.belowB hb0 I.bel
              have c0 := hbx.c0
              have c1 := hbx.c1
              have c2 := hbx.c2
              have c3 := hbx.c3
              have c4 := hbx.c4
              have c5 := hbx.c5
              have c6 := hbx.c6
              have UO : ∀ n, n ≠ 39 → updAE us 39 (.agg #[.int .i64 x.d, .int .i64 x.k, .string ⟨x.c.toArray⟩, .int .i64 x.a, .bool x.p, .bool x.v, .bool x.r]) n = us n := fun n h => upd_otherE h
              have U39 : updAE us 39 (.agg #[.int .i64 x.d, .int .i64 x.k, .string ⟨x.c.toArray⟩, .int .i64 x.a, .bool x.p, .bool x.v, .bool x.r]) 39 = (.agg #[.int .i64 x.d, .int .i64 x.k, .string ⟨x.c.toArray⟩, .int .i64 x.a, .bool x.p, .bool x.v, .bool x.r]) := upd_sameE _ _ _
              have U0 := UO 0 (by decide)
              have U3 := UO 3 (by decide)
              have U6 := UO 6 (by decide)
              have U4 := UO 4 (by decide)
              have U5 := UO 5 (by decide)
              have U34 := UO 34 (by decide)
              have U35 := UO 35 (by decide)
              have U36 := UO 36 (by decide)
              have U37 := UO 37 (by decide)
              have U38 := UO 38 (by decide)
              have U40 := UO 40 (by decide)
              have U41 := UO 41 (by decide)
              have U42 := UO 42 (by decide)
              have U43 := UO 43 (by decide)
              have U44 := UO 44 (by decide)
              have U45 := UO 45 (by decide)
              refine wpOp_step rfl (fun K hK => ?_)
              simp only [frAE, e0, e3, e6, c0, c1, c2, c3, c4, c5, c6]
              go_simp
              refine hK _ _ ⟨updAE us 39 (.agg #[.int .i64 x.d, .int .i64 x.k, .string ⟨x.c.toArray⟩, .int .i64 x.a, .bool x.p, .bool x.v, .bool x.r]), by simp [frAE, updAE, e0, e3, e6, c0, c1, c2, c3, c4, c5, c6], { u0 := (U0.trans I.u0), u3 := (U3.trans I.u3), u6 := (U6.trans I.u6), bel := (I.bel), o1 := (fun h => U35.trans (I.o1 (D1.symm.trans h))), o2 := (fun h => U36.trans (I.o2 (D2.symm.trans h))), o3 := (fun h => U37.trans (I.o3 (D3.symm.trans h))), o5 := (fun _ => U39), o8 := (fun h => U42.trans (I.o8 (D8.symm.trans h))), o9 := (fun h => U43.trans (I.o9 (D9.symm.trans h))), o10 := (fun h => U44.trans (I.o10 (D10.symm.trans h))), o13 := (fun h => U5.trans (I.o13 (D13.symm.trans h))), o6 := (fun h0 h1 => by rw [U40]; exact I.o6 (D6.symm.trans h0) (D7.symm.trans h1)), r0 := (fun h0 h1 => by rw [U34]; exact I.r0 (D0.symm.trans h0) (D4.symm.trans h1)), r4 := (fun h0 h1 => by rw [U38]; exact I.r4 (D4.symm.trans h0) (D7.symm.trans h1)), r7 := (fun h0 h1 => by rw [U41]; exact I.r7 (D7.symm.trans h0) (D11.symm.trans h1)), r11 := (fun h0 => by rw [U45]; exact I.r11 (D11.symm.trans h0)), s0 := (fun h0 h1 h2 h3 => by rw [U34, U40]; exact I.s0 (D0.symm.trans h0) (D4.symm.trans h1) (D6.symm.trans h2) (D7.symm.trans h3)), s4 := (fun h0 h1 h2 => by rw [U38, U40]; exact I.s4 (D4.symm.trans h0) (D7.symm.trans h1) (D6.symm.trans h2)), o12 := (fun h => by rw [U4, U45, D11]; exact I.o12 (D12.symm.trans h)), i7 := (fun h => D4.trans (I.i7 (D7.symm.trans h))), i11 := (fun h => D7.trans (I.i11 (D11.symm.trans h))) }⟩
            · skip
              have DO : ∀ n, 6 ≠ n → (d.setIfInBounds 6 true).getD n false = d.getD n false := fun n h => getD_set_ne false h
              have D6 : (d.setIfInBounds 6 true).getD 6 false = true := getD_set_sameE hun
              have D0 := DO 0 (by decide)
              have D1 := DO 1 (by decide)
              have D2 := DO 2 (by decide)
              have D3 := DO 3 (by decide)
              have D4 := DO 4 (by decide)
              have D5 := DO 5 (by decide)
              have D7 := DO 7 (by decide)
              have D8 := DO 8 (by decide)
              have D9 := DO 9 (by decide)
              have D10 := DO 10 (by decide)
              have D11 := DO 11 (by decide)
              have D12 := DO 12 (by decide)
              have D13 := DO 13 (by decide)
              have e39 := I.o5 (hall ⟨5, .data⟩ (by simp) rfl)
              have UO : ∀ n, n ≠ 40 → updAE us 40 (.slice (some ⟨W.heap.size, 0, none⟩) 1 1) n = us n := fun n h => upd_otherE h
              have U40 : updAE us 40 (.slice (some ⟨W.heap.size, 0, none⟩) 1 1) 40 = (.slice (some ⟨W.heap.size, 0, none⟩) 1 1) := upd_sameE _ _ _
              have U0 := UO 0 (by decide)
              have U3 := UO 3 (by decide)
              have U6 := UO 6 (by decide)
              have U4 := UO 4 (by decide)
              have U5 := UO 5 (by decide)
              have U34 := UO 34 (by decide)
              have U35 := UO 35 (by decide)
              have U36 := UO 36 (by decide)
              have U37 := UO 37 (by decide)
              have U38 := UO 38 (by decide)
              have U39 := UO 39 (by decide)
              have U41 := UO 41 (by decide)
              have U42 := UO 42 (by decide)
              have U43 := UO 43 (by decide)
              have U44 := UO 44 (by decide)
              have U45 := UO 45 (by decide)
              refine wpOp_step rfl (fun K hK => ?_)
              simp only [frAE, e0, e3, e6, e39]
              go_simp
              refine hK _ _ ⟨updAE us 40 (.slice (some ⟨W.heap.size, 0, none⟩) 1 1), by simp [frAE, updAE, e0, e3, e6, e39], { u0 := (U0.trans I.u0), u3 := (U3.trans I.u3), u6 := (U6.trans I.u6), bel := (I.bel.alloc hsz _), o1 := (fun h => U35.trans (I.o1 (D1.symm.trans h))), o2 := (fun h => U36.trans (I.o2 (D2.symm.trans h))), o3 := (fun h => U37.trans (I.o3 (D3.symm.trans h))), o5 := (fun h => U39.trans (I.o5 (D5.symm.trans h))), o8 := (fun h => U42.trans (I.o8 (D8.symm.trans h))), o9 := (fun h => U43.trans (I.o9 (D9.symm.trans h))), o10 := (fun h => U44.trans (I.o10 (D10.symm.trans h))), o13 := (fun h => U5.trans (I.o13 (D13.symm.trans h))), o6 := (fun _ _ => by rw [U40]; exact ⟨_, rfl, heap_alloc_new W _, hsz⟩), r0 := (fun h0 h1 => by rw [U34]; exact (I.r0 (D0.symm.trans h0) (D4.symm.trans h1)).below (below_alloc _ _)), r4 := (fun h0 h1 => by rw [U38]; exact (I.r4 (D4.symm.trans h0) (D7.symm.trans h1)).below (below_alloc _ _)), r7 := (fun h0 h1 => by rw [U41]; exact (I.r7 (D7.symm.trans h0) (D11.symm.trans h1)).below (below_alloc _ _)), r11 := (fun h0 => by rw [U45]; exact (I.r11 (D11.symm.trans h0)).below (below_alloc _ _)), s0 := (fun h0 h1 h2 h3 => by rw [U34, U40]; exact sep_ltE fun k hk => (I.r0 (D0.symm.trans h0) (D4.symm.trans h1)).lt hk), s4 := (fun h0 h1 h2 => by rw [U38, U40]; exact sep_ltE fun k hk => (I.r4 (D4.symm.trans h0) (D7.symm.trans h1)).lt hk), o12 := (fun h => by rw [U4, U45, D11]; exact I.o12 (D12.symm.trans h)), i7 := (fun h => D4.trans (I.i7 (D7.symm.trans h))), i11 := (fun h => D7.trans (I.i11 (D11.symm.trans h))) }⟩
            · skip
              have DO : ∀ n, 7 ≠ n → (d.setIfInBounds 7 true).getD n false = d.getD n false := fun n h => getD_set_ne false h
              have D7 : (d.setIfInBounds 7 true).getD 7 false = true := getD_set_sameE hun
              have D0 := DO 0 (by decide)
              have D1 := DO 1 (by decide)
              have D2 := DO 2 (by decide)
              have D3 := DO 3 (by decide)
              have D4 := DO 4 (by decide)
              have D5 := DO 5 (by decide)
              have D6 := DO 6 (by decide)
              have D8 := DO 8 (by decide)
              have D9 := DO 9 (by decide)
              have D10 := DO 10 (by decide)
              have D11 := DO 11 (by decide)
              have D12 := DO 12 (by decide)
              have D13 := DO 13 (by decide)
              have h44 := hall ⟨4, .data⟩ (by simp) rfl
              obtain ⟨B, e40, hRB⟩ := (I.o6 (hall ⟨6, .data⟩ (by simp) rfl) (getD_tfE hun)).row
              have hRow := I.r4 (hall ⟨4, .data⟩ (by simp) rfl) (getD_tfE hun)
              refine wpOp_append_evt rfl rfl (.tmp 38) (.tmp 40) rfl wq.heap.size (us 38) (ps) rfl hRow (some ⟨B, 0, none⟩) 1 [x] e40 hRB (.inr ⟨_, _, rfl⟩) (by simp [hl1, hl3] <;> omega) hsz ?_
              intro v W2 hR2 hB hg hv
              have UO : ∀ n, n ≠ 41 → updAE us 41 (v) n = us n := fun n h => upd_otherE h
              have U41 : updAE us 41 (v) 41 = (v) := upd_sameE _ _ _
              have U0 := UO 0 (by decide)
              have U3 := UO 3 (by decide)
              have U6 := UO 6 (by decide)
              have U4 := UO 4 (by decide)
              have U5 := UO 5 (by decide)
              have U34 := UO 34 (by decide)
              have U35 := UO 35 (by decide)
              have U36 := UO 36 (by decide)
              have U37 := UO 37 (by decide)
              have U38 := UO 38 (by decide)
              have U39 := UO 39 (by decide)
              have U40 := UO 40 (by decide)
              have U42 := UO 42 (by decide)
              have U43 := UO 43 (by decide)
              have U44 := UO 44 (by decide)
              have U45 := UO 45 (by decide)
              refine ⟨updAE us 41 v, by simp [frAE, updAE, Act.put], { u0 := (U0.trans I.u0), u3 := (U3.trans I.u3), u6 := (U6.trans I.u6), bel := (I.bel.trans hB), o1 := (fun h => U35.trans (I.o1 (D1.symm.trans h))), o2 := (fun h => U36.trans (I.o2 (D2.symm.trans h))), o3 := (fun h => U37.trans (I.o3 (D3.symm.trans h))), o5 := (fun h => U39.trans (I.o5 (D5.symm.trans h))), o8 := (fun h => U42.trans (I.o8 (D8.symm.trans h))), o9 := (fun h => U43.trans (I.o9 (D9.symm.trans h))), o10 := (fun h => U44.trans (I.o10 (D10.symm.trans h))), o13 := (fun h => U5.trans (I.o13 (D13.symm.trans h))), o6 := (fun h0 h1 => by rw [D7] at h1; cases h1), r0 := (fun h0 h1 => absurd h44 (by rw [D4.symm.trans h1]; exact Bool.false_ne_true)), r4 := (fun h0 h1 => by rw [D7] at h1; cases h1), r7 := (fun _ _ => by rw [U41]; exact hR2), r11 := (fun h0 => absurd (I.i11 (D11.symm.trans h0)) (by rw [getD_tfE hun]; exact Bool.false_ne_true)), s0 := (fun h0 h1 h2 h3 => by rw [D7] at h3; cases h3), s4 := (fun h0 h1 h2 => by rw [D7] at h1; cases h1), o12 := (fun h => by rw [U4, U45, D11]; exact I.o12 (D12.symm.trans h)), i7 := (fun _ => D4.trans h44), i11 := (fun _ => D7) }⟩
            · skip
              have DO : ∀ n, 8 ≠ n → (d.setIfInBounds 8 true).getD n false = d.getD n false := fun n h => getD_set_ne false h
              have D8 : (d.setIfInBounds 8 true).getD 8 false = true := getD_set_sameE hun
              have D0 := DO 0 (by decide)
              have D1 := DO 1 (by decide)
              have D2 := DO 2 (by decide)
              have D3 := DO 3 (by decide)
              have D4 := DO 4 (by decide)
              have D5 := DO 5 (by decide)
              have D6 := DO 6 (by decide)
              have D7 := DO 7 (by decide)
              have D9 := DO 9 (by decide)
              have D10 := DO 10 (by decide)
              have D11 := DO 11 (by decide)
              have D12 := DO 12 (by decide)
              have D13 := DO 13 (by decide)
              have UO : ∀ n, n ≠ 42 → updAE us 42 (.slice (some ⟨g, off, none⟩) ps.length ps.length) n = us n := fun n h => upd_otherE h
              have U42 : updAE us 42 (.slice (some ⟨g, off, none⟩) ps.length ps.length) 42 = (.slice (some ⟨g, off, none⟩) ps.length ps.length) := upd_sameE _ _ _
              have U0 := UO 0 (by decide)
              have U3 := UO 3 (by decide)
              have U6 := UO 6 (by decide)
              have U4 := UO 4 (by decide)
              have U5 := UO 5 (by decide)
              have U34 := UO 34 (by decide)
              have U35 := UO 35 (by decide)
              have U36 := UO 36 (by decide)
              have U37 := UO 37 (by decide)
              have U38 := UO 38 (by decide)
              have U39 := UO 39 (by decide)
              have U40 := UO 40 (by decide)
              have U41 := UO 41 (by decide)
              have U43 := UO 43 (by decide)
              have U44 := UO 44 (by decide)
              have U45 := UO 45 (by decide)
              refine wpOp_step rfl (fun K hK => ?_)
              simp only [frAE, e0, e3, e6]
              go_simp
              refine hK _ _ ⟨updAE us 42 (.slice (some ⟨g, off, none⟩) ps.length ps.length), by simp [frAE, updAE, e0, e3, e6], { u0 := (U0.trans I.u0), u3 := (U3.trans I.u3), u6 := (U6.trans I.u6), bel := (I.bel), o1 := (fun h => U35.trans (I.o1 (D1.symm.trans h))), o2 := (fun h => U36.trans (I.o2 (D2.symm.trans h))), o3 := (fun h => U37.trans (I.o3 (D3.symm.trans h))), o5 := (fun h => U39.trans (I.o5 (D5.symm.trans h))), o8 := (fun _ => U42), o9 := (fun h => U43.trans (I.o9 (D9.symm.trans h))), o10 := (fun h => U44.trans (I.o10 (D10.symm.trans h))), o13 := (fun h => U5.trans (I.o13 (D13.symm.trans h))), o6 := (fun h0 h1 => by rw [U40]; exact I.o6 (D6.symm.trans h0) (D7.symm.trans h1)), r0 := (fun h0 h1 => by rw [U34]; exact I.r0 (D0.symm.trans h0) (D4.symm.trans h1)), r4 := (fun h0 h1 => by rw [U38]; exact I.r4 (D4.symm.trans h0) (D7.symm.trans h1)), r7 := (fun h0 h1 => by rw [U41]; exact I.r7 (D7.symm.trans h0) (D11.symm.trans h1)), r11 := (fun h0 => by rw [U45]; exact I.r11 (D11.symm.trans h0)), s0 := (fun h0 h1 h2 h3 => by rw [U34, U40]; exact I.s0 (D0.symm.trans h0) (D4.symm.trans h1) (D6.symm.trans h2) (D7.symm.trans h3)), s4 := (fun h0 h1 h2 => by rw [U38, U40]; exact I.s4 (D4.symm.trans h0) (D7.symm.trans h1) (D6.symm.trans h2)), o12 := (fun h => by rw [U4, U45, D11]; exact I.o12 (D12.symm.trans h)), i7 := (fun h => D4.trans (I.i7 (D7.symm.trans h))), i11 := (fun h => D7.trans (I.i11 (D11.symm.trans h))) }⟩
            · skip
              have DO : ∀ n, 9 ≠ n → (d.setIfInBounds 9 true).getD n false = d.getD n false := fun n h => getD_set_ne false h
              have D9 : (d.setIfInBounds 9 true).getD 9 false = true := getD_set_sameE hun
              have D0 := DO 0 (by decide)
              have D1 := DO 1 (by decide)
              have D2 := DO 2 (by decide)
              have D3 := DO 3 (by decide)
              have D4 := DO 4 (by decide)
              have D5 := DO 5 (by decide)
              have D6 := DO 6 (by decide)
              have D7 := DO 7 (by decide)
              have D8 := DO 8 (by decide)
              have D10 := DO 10 (by decide)
              have D11 := DO 11 (by decide)
              have D12 := DO 12 (by decide)
              have D13 := DO 13 (by decide)
              have UO : ∀ n, n ≠ 43 → updAE us 43 (.int .i64 ((ps.length : Nat) : Int)) n = us n := fun n h => upd_otherE h
              have U43 : updAE us 43 (.int .i64 ((ps.length : Nat) : Int)) 43 = (.int .i64 ((ps.length : Nat) : Int)) := upd_sameE _ _ _
              have U0 := UO 0 (by decide)
              have U3 := UO 3 (by decide)
              have U6 := UO 6 (by decide)
              have U4 := UO 4 (by decide)
              have U5 := UO 5 (by decide)
              have U34 := UO 34 (by decide)
              have U35 := UO 35 (by decide)
              have U36 := UO 36 (by decide)
              have U37 := UO 37 (by decide)
              have U38 := UO 38 (by decide)
              have U39 := UO 39 (by decide)
              have U40 := UO 40 (by decide)
              have U41 := UO 41 (by decide)
              have U42 := UO 42 (by decide)
              have U44 := UO 44 (by decide)
              have U45 := UO 45 (by decide)
              refine wpOp_step rfl (fun K hK => ?_)
              simp only [frAE, e0, e3, e6]
              go_simp
              refine hK _ _ ⟨updAE us 43 (.int .i64 ((ps.length : Nat) : Int)), by simp [frAE, updAE, e0, e3, e6], { u0 := (U0.trans I.u0), u3 := (U3.trans I.u3), u6 := (U6.trans I.u6), bel := (I.bel), o1 := (fun h => U35.trans (I.o1 (D1.symm.trans h))), o2 := (fun h => U36.trans (I.o2 (D2.symm.trans h))), o3 := (fun h => U37.trans (I.o3 (D3.symm.trans h))), o5 := (fun h => U39.trans (I.o5 (D5.symm.trans h))), o8 := (fun h => U42.trans (I.o8 (D8.symm.trans h))), o9 := (fun _ => U43), o10 := (fun h => U44.trans (I.o10 (D10.symm.trans h))), o13 := (fun h => U5.trans (I.o13 (D13.symm.trans h))), o6 := (fun h0 h1 => by rw [U40]; exact I.o6 (D6.symm.trans h0) (D7.symm.trans h1)), r0 := (fun h0 h1 => by rw [U34]; exact I.r0 (D0.symm.trans h0) (D4.symm.trans h1)), r4 := (fun h0 h1 => by rw [U38]; exact I.r4 (D4.symm.trans h0) (D7.symm.trans h1)), r7 := (fun h0 h1 => by rw [U41]; exact I.r7 (D7.symm.trans h0) (D11.symm.trans h1)), r11 := (fun h0 => by rw [U45]; exact I.r11 (D11.symm.trans h0)), s0 := (fun h0 h1 h2 h3 => by rw [U34, U40]; exact I.s0 (D0.symm.trans h0) (D4.symm.trans h1) (D6.symm.trans h2) (D7.symm.trans h3)), s4 := (fun h0 h1 h2 => by rw [U38, U40]; exact I.s4 (D4.symm.trans h0) (D7.symm.trans h1) (D6.symm.trans h2)), o12 := (fun h => by rw [U4, U45, D11]; exact I.o12 (D12.symm.trans h)), i7 := (fun h => D4.trans (I.i7 (D7.symm.trans h))), i11 := (fun h => D7.trans (I.i11 (D11.symm.trans h))) }⟩
            · skip
              have DO : ∀ n, 10 ≠ n → (d.setIfInBounds 10 true).getD n false = d.getD n false := fun n h => getD_set_ne false h
              have D10 : (d.setIfInBounds 10 true).getD 10 false = true := getD_set_sameE hun
              have D0 := DO 0 (by decide)
              have D1 := DO 1 (by decide)
              have D2 := DO 2 (by decide)
              have D3 := DO 3 (by decide)
              have D4 := DO 4 (by decide)
              have D5 := DO 5 (by decide)
              have D6 := DO 6 (by decide)
              have D7 := DO 7 (by decide)
              have D8 := DO 8 (by decide)
              have D9 := DO 9 (by decide)
              have D11 := DO 11 (by decide)
              have D12 := DO 12 (by decide)
              have D13 := DO 13 (by decide)
              have e42 := I.o8 (hall ⟨8, .data⟩ (by simp) rfl)
              have e43 := I.o9 (hall ⟨9, .data⟩ (by simp) rfl)
              have UO : ∀ n, n ≠ 44 → updAE us 44 (.slice (some ⟨g, off, none⟩) 0 0) n = us n := fun n h => upd_otherE h
              have U44 : updAE us 44 (.slice (some ⟨g, off, none⟩) 0 0) 44 = (.slice (some ⟨g, off, none⟩) 0 0) := upd_sameE _ _ _
              have U0 := UO 0 (by decide)
              have U3 := UO 3 (by decide)
              have U6 := UO 6 (by decide)
              have U4 := UO 4 (by decide)
              have U5 := UO 5 (by decide)
              have U34 := UO 34 (by decide)
              have U35 := UO 35 (by decide)
              have U36 := UO 36 (by decide)
              have U37 := UO 37 (by decide)
              have U38 := UO 38 (by decide)
              have U39 := UO 39 (by decide)
              have U40 := UO 40 (by decide)
              have U41 := UO 41 (by decide)
              have U42 := UO 42 (by decide)
              have U43 := UO 43 (by decide)
              have U45 := UO 45 (by decide)
              refine wpOp_step rfl (fun K hK => ?_)
              simp only [frAE, e0, e3, e6, e42, e43]
              go_simp
              try (rw [if_pos (by omega)]; go_simp)
              refine hK _ _ ⟨updAE us 44 (.slice (some ⟨g, off, none⟩) 0 0), by simp [frAE, updAE, e0, e3, e6, e42, e43], { u0 := (U0.trans I.u0), u3 := (U3.trans I.u3), u6 := (U6.trans I.u6), bel := (I.bel), o1 := (fun h => U35.trans (I.o1 (D1.symm.trans h))), o2 := (fun h => U36.trans (I.o2 (D2.symm.trans h))), o3 := (fun h => U37.trans (I.o3 (D3.symm.trans h))), o5 := (fun h => U39.trans (I.o5 (D5.symm.trans h))), o8 := (fun h => U42.trans (I.o8 (D8.symm.trans h))), o9 := (fun h => U43.trans (I.o9 (D9.symm.trans h))), o10 := (fun _ => U44), o13 := (fun h => U5.trans (I.o13 (D13.symm.trans h))), o6 := (fun h0 h1 => by rw [U40]; exact I.o6 (D6.symm.trans h0) (D7.symm.trans h1)), r0 := (fun h0 h1 => by rw [U34]; exact I.r0 (D0.symm.trans h0) (D4.symm.trans h1)), r4 := (fun h0 h1 => by rw [U38]; exact I.r4 (D4.symm.trans h0) (D7.symm.trans h1)), r7 := (fun h0 h1 => by rw [U41]; exact I.r7 (D7.symm.trans h0) (D11.symm.trans h1)), r11 := (fun h0 => by rw [U45]; exact I.r11 (D11.symm.trans h0)), s0 := (fun h0 h1 h2 h3 => by rw [U34, U40]; exact I.s0 (D0.symm.trans h0) (D4.symm.trans h1) (D6.symm.trans h2) (D7.symm.trans h3)), s4 := (fun h0 h1 h2 => by rw [U38, U40]; exact I.s4 (D4.symm.trans h0) (D7.symm.trans h1) (D6.symm.trans h2)), o12 := (fun h => by rw [U4, U45, D11]; exact I.o12 (D12.symm.trans h)), i7 := (fun h => D4.trans (I.i7 (D7.symm.trans h))), i11 := (fun h => D7.trans (I.i11 (D11.symm.trans h))) }⟩
            · skip
              have DO : ∀ n, 11 ≠ n → (d.setIfInBounds 11 true).getD n false = d.getD n false := fun n h => getD_set_ne false h
              have D11 : (d.setIfInBounds 11 true).getD 11 false = true := getD_set_sameE hun
              have D0 := DO 0 (by decide)
              have D1 := DO 1 (by decide)
              have D2 := DO 2 (by decide)
              have D3 := DO 3 (by decide)
              have D4 := DO 4 (by decide)
              have D5 := DO 5 (by decide)
              have D6 := DO 6 (by decide)
              have D7 := DO 7 (by decide)
              have D8 := DO 8 (by decide)
              have D9 := DO 9 (by decide)
              have D10 := DO 10 (by decide)
              have D12 := DO 12 (by decide)
              have D13 := DO 13 (by decide)
              have e44 := I.o10 (hall ⟨10, .data⟩ (by simp) rfl)
              have h77 := hall ⟨7, .data⟩ (by simp) rfl
              have hRow := I.r7 (hall ⟨7, .data⟩ (by simp) rfl) (getD_tfE hun)
              refine wpOp_append_evt rfl rfl (.tmp 41) (.tmp 44) rfl wq.heap.size (us 41) (ps ++ [x]) rfl hRow (some ⟨g, off, none⟩) (0) (([] : List Evt)) (by show us 44 = _; rw [e44] <;> simp [hl3]) (q3.below I.bel) (.inr ⟨_, _, rfl⟩) (by simp [hl1, hl3] <;> omega) hsz ?_
              intro v W2 hR2 hB hg hv
              have UO : ∀ n, n ≠ 45 → updAE us 45 (v) n = us n := fun n h => upd_otherE h
              have U45 : updAE us 45 (v) 45 = (v) := upd_sameE _ _ _
              have U0 := UO 0 (by decide)
              have U3 := UO 3 (by decide)
              have U6 := UO 6 (by decide)
              have U4 := UO 4 (by decide)
              have U5 := UO 5 (by decide)
              have U34 := UO 34 (by decide)
              have U35 := UO 35 (by decide)
              have U36 := UO 36 (by decide)
              have U37 := UO 37 (by decide)
              have U38 := UO 38 (by decide)
              have U39 := UO 39 (by decide)
              have U40 := UO 40 (by decide)
              have U41 := UO 41 (by decide)
              have U42 := UO 42 (by decide)
              have U43 := UO 43 (by decide)
              have U44 := UO 44 (by decide)
              refine ⟨updAE us 45 v, by simp [frAE, updAE, Act.put], { u0 := (U0.trans I.u0), u3 := (U3.trans I.u3), u6 := (U6.trans I.u6), bel := (I.bel.trans hB), o1 := (fun h => U35.trans (I.o1 (D1.symm.trans h))), o2 := (fun h => U36.trans (I.o2 (D2.symm.trans h))), o3 := (fun h => U37.trans (I.o3 (D3.symm.trans h))), o5 := (fun h => U39.trans (I.o5 (D5.symm.trans h))), o8 := (fun h => U42.trans (I.o8 (D8.symm.trans h))), o9 := (fun h => U43.trans (I.o9 (D9.symm.trans h))), o10 := (fun h => U44.trans (I.o10 (D10.symm.trans h))), o13 := (fun h => U5.trans (I.o13 (D13.symm.trans h))), o6 := (fun h0 h1 => absurd h77 (by rw [D7.symm.trans h1]; exact Bool.false_ne_true)), r0 := (fun h0 h1 => absurd (I.i7 h77) (by rw [D4.symm.trans h1]; exact Bool.false_ne_true)), r4 := (fun h0 h1 => absurd h77 (by rw [D7.symm.trans h1]; exact Bool.false_ne_true)), r7 := (fun h0 h1 => by rw [D11] at h1; cases h1), r11 := (fun _ => by rw [U45]; exact hR2), s0 := (fun h0 h1 h2 h3 => by rw [U34, U40]; exact I.s0 (D0.symm.trans h0) (D4.symm.trans h1) (D6.symm.trans h2) (D7.symm.trans h3)), s4 := (fun h0 h1 h2 => by rw [U38, U40]; exact I.s4 (D4.symm.trans h0) (D7.symm.trans h1) (D6.symm.trans h2)), o12 := (fun h => absurd (I.o12 (D12.symm.trans h)).2 (by rw [getD_tfE hun]; exact Bool.false_ne_true)), i7 := (fun h => D4.trans (I.i7 (D7.symm.trans h))), i11 := (fun _ => D7.trans h77) }⟩
            · skip
              have DO : ∀ n, 12 ≠ n → (d.setIfInBounds 12 true).getD n false = d.getD n false := fun n h => getD_set_ne false h
              have D12 : (d.setIfInBounds 12 true).getD 12 false = true := getD_set_sameE hun
              have D0 := DO 0 (by decide)
              have D1 := DO 1 (by decide)
              have D2 := DO 2 (by decide)
              have D3 := DO 3 (by decide)
              have D4 := DO 4 (by decide)
              have D5 := DO 5 (by decide)
              have D6 := DO 6 (by decide)
              have D7 := DO 7 (by decide)
              have D8 := DO 8 (by decide)
              have D9 := DO 9 (by decide)
              have D10 := DO 10 (by decide)
              have D11 := DO 11 (by decide)
              have D13 := DO 13 (by decide)
              have h11 := hall ⟨11, .data⟩ (by simp) rfl
              have UO : ∀ n, n ≠ 4 → updAE us 4 (us 45) n = us n := fun n h => upd_otherE h
              have U4 : updAE us 4 (us 45) 4 = (us 45) := upd_sameE _ _ _
              have U0 := UO 0 (by decide)
              have U3 := UO 3 (by decide)
              have U6 := UO 6 (by decide)
              have U5 := UO 5 (by decide)
              have U34 := UO 34 (by decide)
              have U35 := UO 35 (by decide)
              have U36 := UO 36 (by decide)
              have U37 := UO 37 (by decide)
              have U38 := UO 38 (by decide)
              have U39 := UO 39 (by decide)
              have U40 := UO 40 (by decide)
              have U41 := UO 41 (by decide)
              have U42 := UO 42 (by decide)
              have U43 := UO 43 (by decide)
              have U44 := UO 44 (by decide)
              have U45 := UO 45 (by decide)
              refine wpOp_step rfl (fun K hK => ?_)
              simp only [frAE, e0, e3, e6]
              go_simp
              refine hK _ _ ⟨updAE us 4 (us 45), by simp [frAE, updAE, e0, e3, e6], { u0 := (U0.trans I.u0), u3 := (U3.trans I.u3), u6 := (U6.trans I.u6), bel := (I.bel), o1 := (fun h => U35.trans (I.o1 (D1.symm.trans h))), o2 := (fun h => U36.trans (I.o2 (D2.symm.trans h))), o3 := (fun h => U37.trans (I.o3 (D3.symm.trans h))), o5 := (fun h => U39.trans (I.o5 (D5.symm.trans h))), o8 := (fun h => U42.trans (I.o8 (D8.symm.trans h))), o9 := (fun h => U43.trans (I.o9 (D9.symm.trans h))), o10 := (fun h => U44.trans (I.o10 (D10.symm.trans h))), o13 := (fun h => U5.trans (I.o13 (D13.symm.trans h))), o6 := (fun h0 h1 => by rw [U40]; exact I.o6 (D6.symm.trans h0) (D7.symm.trans h1)), r0 := (fun h0 h1 => by rw [U34]; exact I.r0 (D0.symm.trans h0) (D4.symm.trans h1)), r4 := (fun h0 h1 => by rw [U38]; exact I.r4 (D4.symm.trans h0) (D7.symm.trans h1)), r7 := (fun h0 h1 => by rw [U41]; exact I.r7 (D7.symm.trans h0) (D11.symm.trans h1)), r11 := (fun h0 => by rw [U45]; exact I.r11 (D11.symm.trans h0)), s0 := (fun h0 h1 h2 h3 => by rw [U34, U40]; exact I.s0 (D0.symm.trans h0) (D4.symm.trans h1) (D6.symm.trans h2) (D7.symm.trans h3)), s4 := (fun h0 h1 h2 => by rw [U38, U40]; exact I.s4 (D4.symm.trans h0) (D7.symm.trans h1) (D6.symm.trans h2)), o12 := (fun _ => ⟨by rw [U4, U45], by rw [D11]; exact h11⟩), i7 := (fun h => D4.trans (I.i7 (D7.symm.trans h))), i11 := (fun h => D7.trans (I.i11 (D11.symm.trans h))) }⟩
            · skip
              have DO : ∀ n, 13 ≠ n → (d.setIfInBounds 13 true).getD n false = d.getD n false := fun n h => getD_set_ne false h
              have D13 : (d.setIfInBounds 13 true).getD 13 false = true := getD_set_sameE hun
              have D0 := DO 0 (by decide)
              have D1 := DO 1 (by decide)
              have D2 := DO 2 (by decide)
              have D3 := DO 3 (by decide)
              have D4 := DO 4 (by decide)
              have D5 := DO 5 (by decide)
              have D6 := DO 6 (by decide)
              have D7 := DO 7 (by decide)
              have D8 := DO 8 (by decide)
              have D9 := DO 9 (by decide)
              have D10 := DO 10 (by decide)
              have D11 := DO 11 (by decide)
              have D12 := DO 12 (by decide)
              have UO : ∀ n, n ≠ 5 → updAE us 5 (.int .i64 0) n = us n := fun n h => upd_otherE h
              have U5 : updAE us 5 (.int .i64 0) 5 = (.int .i64 0) := upd_sameE _ _ _
              have U0 := UO 0 (by decide)
              have U3 := UO 3 (by decide)
              have U6 := UO 6 (by decide)
              have U4 := UO 4 (by decide)
              have U34 := UO 34 (by decide)
              have U35 := UO 35 (by decide)
              have U36 := UO 36 (by decide)
              have U37 := UO 37 (by decide)
              have U38 := UO 38 (by decide)
              have U39 := UO 39 (by decide)
              have U40 := UO 40 (by decide)
              have U41 := UO 41 (by decide)
              have U42 := UO 42 (by decide)
              have U43 := UO 43 (by decide)
              have U44 := UO 44 (by decide)
              have U45 := UO 45 (by decide)
              refine wpOp_step rfl (fun K hK => ?_)
              simp only [frAE, e0, e3, e6]
              go_simp
              refine hK _ _ ⟨updAE us 5 (.int .i64 0), by simp [frAE, updAE, e0, e3, e6], { u0 := (U0.trans I.u0), u3 := (U3.trans I.u3), u6 := (U6.trans I.u6), bel := (I.bel), o1 := (fun h => U35.trans (I.o1 (D1.symm.trans h))), o2 := (fun h => U36.trans (I.o2 (D2.symm.trans h))), o3 := (fun h => U37.trans (I.o3 (D3.symm.trans h))), o5 := (fun h => U39.trans (I.o5 (D5.symm.trans h))), o8 := (fun h => U42.trans (I.o8 (D8.symm.trans h))), o9 := (fun h => U43.trans (I.o9 (D9.symm.trans h))), o10 := (fun h => U44.trans (I.o10 (D10.symm.trans h))), o13 := (fun _ => U5), o6 := (fun h0 h1 => by rw [U40]; exact I.o6 (D6.symm.trans h0) (D7.symm.trans h1)), r0 := (fun h0 h1 => by rw [U34]; exact I.r0 (D0.symm.trans h0) (D4.symm.trans h1)), r4 := (fun h0 h1 => by rw [U38]; exact I.r4 (D4.symm.trans h0) (D7.symm.trans h1)), r7 := (fun h0 h1 => by rw [U41]; exact I.r7 (D7.symm.trans h0) (D11.symm.trans h1)), r11 := (fun h0 => by rw [U45]; exact I.r11 (D11.symm.trans h0)), s0 := (fun h0 h1 h2 h3 => by rw [U34, U40]; exact I.s0 (D0.symm.trans h0) (D4.symm.trans h1) (D6.symm.trans h2) (D7.symm.trans h3)), s4 := (fun h0 h1 h2 => by rw [U38, U40]; exact I.s4 (D4.symm.trans h0) (D7.symm.trans h1) (D6.symm.trans h2)), o12 := (fun h => by rw [U4, U45, D11]; exact I.o12 (D12.symm.trans h)), i7 := (fun h => D4.trans (I.i7 (D7.symm.trans h))), i11 := (fun h => D7.trans (I.i11 (D11.symm.trans h))) }⟩
          · intro d a W hd hall hI
            obtain ⟨us, rfl, I⟩ := hI
            have D : ∀ k, k < 14 → d.getD k false = true := fun k hk => by
              have := hall k hk
              have hk2 : k < d.size := by rw [hd]; exact hk
              simp [hk2] at this ⊢; exact this
            obtain ⟨h7, h11⟩ := I.o12 (D 12 (by decide))
            have h13 := I.o13 (D 13 (by decide))
            obtain ⟨O, q, e45, hO⟩ := I.r11 h11
            have e7 := h7.trans e45
            have hbel := I.bel
            rw [hjoin] at e7 hO
            clear I hall D h7 e45
            simp only [frAE, e7, h13]
            go_wp2_with fail
            go_ret2
            rw [HE.out]
            exact ⟨O, q, rfl, hO.mono hkq.bel.size, hkq.bel.trans (hbel.mono hkq.bel.size)⟩
        · have q1 := hRq.take ps.length
          have q3 := hRq.drop ps.length
          have e1 : ps.length ≠ c := by omega
          have e1s : ¬ c = ps.length := by omega
          have e2 : ps.length < c := by omega
          have hl1 : ((ps.take ps.length)).length = ps.length := by rw [List.length_take]; omega
          have hl3 : ((ps.drop ps.length)).length = (ps.length - ps.length) := by rw [List.length_drop]
          refine region_inv (by kernel_rfl) (by kernel_rfl) (fun d a W => ∃ us, a = frAE us ∧ InvAE wq.heap.size (w.heap.size) (ps.length) (c) (ps.length) (some ⟨g, off, none⟩) (.slice (some ⟨g, off, none⟩) ps.length c) (.slice (some ⟨g, off + ps.length * 7, none⟩) (ps.length - ps.length) (c - ps.length)) ((ps.take ps.length)) ((ps.drop ps.length)) x wq d us W) ?_ ?_ ?_
          · refine ⟨_, frA_ofE, ?_⟩
            have Z : ∀ k, (Array.replicate 14 false).getD k false = false := fun k => by
              rcases Nat.lt_or_ge k 14 with h | h
              · simp [h]
              · simp [Array.getElem?_eq_none, h]
            have Zn : ∀ {k : Nat} {p : Prop}, (Array.replicate 14 false).getD k false = true → p := fun {k p} h => by rw [Z k] at h; cases h
            exact { u0 := rfl, u3 := rfl, u6 := rfl, bel := (Below.refl _ _).drew, o1 := Zn, o2 := Zn, o3 := Zn, o5 := Zn, o8 := Zn, o9 := Zn, o10 := Zn, o6 := Zn, r0 := Zn, r4 := Zn, r7 := Zn, r11 := Zn, s0 := Zn, s4 := Zn, o12 := Zn, o13 := Zn, i7 := Zn, i11 := Zn }
          · intro i d a W hi hI
            obtain ⟨hun, oi, hoi, hall⟩ := mem_ready.1 hi
            have hlt : i < 14 := (Array.getElem?_eq_some_iff.1 hoi).1
            obtain ⟨us, rfl, I⟩ := hI
            have hsz : wq.heap.size ≤ W.heap.size := I.bel.size
            have e0 := I.u0
            have e3 := I.u3
            have e6 := I.u6
            rcases (by omega : i = 0 ∨ i = 1 ∨ i = 2 ∨ i = 3 ∨ i = 4 ∨ i = 5 ∨ i = 6 ∨ i = 7 ∨ i = 8 ∨ i = 9 ∨ i = 10 ∨ i = 11 ∨ i = 12 ∨ i = 13) with rfl | rfl | rfl | rfl | rfl | rfl | rfl | rfl | rfl | rfl | rfl | rfl | rfl | rfl
            all_goals
              obtain rfl := Option.some.inj hoi
              clear hoi hlt hi
            · skip
              have DO : ∀ n, 0 ≠ n → (d.setIfInBounds 0 true).getD n false = d.getD n false := fun n h => getD_set_ne false h
              have D0 : (d.setIfInBounds 0 true).getD 0 false = true := getD_set_sameE hun
              have D1 := DO 1 (by decide)
              have D2 := DO 2 (by decide)
              have D3 := DO 3 (by decide)
              have D4 := DO 4 (by decide)
              have D5 := DO 5 (by decide)
              have D6 := DO 6 (by decide)
              have D7 := DO 7 (by decide)
              have D8 := DO 8 (by decide)
              have D9 := DO 9 (by decide)
              have D10 := DO 10 (by decide)
              have D11 := DO 11 (by decide)
              have D12 := DO 12 (by decide)
              have D13 := DO 13 (by decide)
              have UO : ∀ n, n ≠ 34 → updAE us 34 (.slice (some ⟨W.heap.size, 0, none⟩) 0 0) n = us n := fun n h => upd_otherE h
              have U34 : updAE us 34 (.slice (some ⟨W.heap.size, 0, none⟩) 0 0) 34 = (.slice (some ⟨W.heap.size, 0, none⟩) 0 0) := upd_sameE _ _ _
              have U0 := UO 0 (by decide)
              have U3 := UO 3 (by decide)
              have U6 := UO 6 (by decide)
              have U4 := UO 4 (by decide)
              have U5 := UO 5 (by decide)
              have U35 := UO 35 (by decide)
              have U36 := UO 36 (by decide)
              have U37 := UO 37 (by decide)
              have U38 := UO 38 (by decide)
              have U39 := UO 39 (by decide)
              have U40 := UO 40 (by decide)
              have U41 := UO 41 (by decide)
              have U42 := UO 42 (by decide)
              have U43 := UO 43 (by decide)
              have U44 := UO 44 (by decide)
              have U45 := UO 45 (by decide)
              refine wpOp_step rfl (fun K hK => ?_)
              simp only [frAE, e0, e3, e6]
              go_simp
              refine hK _ _ ⟨updAE us 34 (.slice (some ⟨W.heap.size, 0, none⟩) 0 0), by simp [frAE, updAE, e0, e3, e6], { u0 := (U0.trans I.u0), u3 := (U3.trans I.u3), u6 := (U6.trans I.u6), bel := (I.bel.alloc hsz _), o1 := (fun h => U35.trans (I.o1 (D1.symm.trans h))), o2 := (fun h => U36.trans (I.o2 (D2.symm.trans h))), o3 := (fun h => U37.trans (I.o3 (D3.symm.trans h))), o5 := (fun h => U39.trans (I.o5 (D5.symm.trans h))), o8 := (fun h => U42.trans (I.o8 (D8.symm.trans h))), o9 := (fun h => U43.trans (I.o9 (D9.symm.trans h))), o10 := (fun h => U44.trans (I.o10 (D10.symm.trans h))), o13 := (fun h => U5.trans (I.o13 (D13.symm.trans h))), o6 := (fun h0 h1 => by rw [U40]; exact (I.o6 (D6.symm.trans h0) (D7.symm.trans h1)).below (below_alloc _ _)), r0 := (fun h0 h1 => by rw [U34]; exact ⟨_, _, rfl, made0e _ _ _ _ hsz⟩), r4 := (fun h0 h1 => by rw [U38]; exact (I.r4 (D4.symm.trans h0) (D7.symm.trans h1)).below (below_alloc _ _)), r7 := (fun h0 h1 => by rw [U41]; exact (I.r7 (D7.symm.trans h0) (D11.symm.trans h1)).below (below_alloc _ _)), r11 := (fun h0 => by rw [U45]; exact (I.r11 (D11.symm.trans h0)).below (below_alloc _ _)), s0 := (fun h0 h1 h2 h3 => by rw [U34, U40]; exact sep_gtE fun k hk => (I.o6 (D6.symm.trans h2) (D7.symm.trans h3)).lt hk), s4 := (fun h0 h1 h2 => by rw [U38, U40]; exact I.s4 (D4.symm.trans h0) (D7.symm.trans h1) (D6.symm.trans h2)), o12 := (fun h => by rw [U4, U45, D11]; exact I.o12 (D12.symm.trans h)), i7 := (fun h => D4.trans (I.i7 (D7.symm.trans h))), i11 := (fun h => D7.trans (I.i11 (D11.symm.trans h))) }⟩
            · skip
              have DO : ∀ n, 1 ≠ n → (d.setIfInBounds 1 true).getD n false = d.getD n false := fun n h => getD_set_ne false h
              have D1 : (d.setIfInBounds 1 true).getD 1 false = true := getD_set_sameE hun
              have D0 := DO 0 (by decide)
              have D2 := DO 2 (by decide)
              have D3 := DO 3 (by decide)
              have D4 := DO 4 (by decide)
              have D5 := DO 5 (by decide)
              have D6 := DO 6 (by decide)
              have D7 := DO 7 (by decide)
              have D8 := DO 8 (by decide)
              have D9 := DO 9 (by decide)
              have D10 := DO 10 (by decide)
              have D11 := DO 11 (by decide)
              have D12 := DO 12 (by decide)
              have D13 := DO 13 (by decide)
              have UO : ∀ n, n ≠ 35 → updAE us 35 (.slice (some ⟨g, off, none⟩) ps.length c) n = us n := fun n h => upd_otherE h
              have U35 : updAE us 35 (.slice (some ⟨g, off, none⟩) ps.length c) 35 = (.slice (some ⟨g, off, none⟩) ps.length c) := upd_sameE _ _ _
              have U0 := UO 0 (by decide)
              have U3 := UO 3 (by decide)
              have U6 := UO 6 (by decide)
              have U4 := UO 4 (by decide)
              have U5 := UO 5 (by decide)
              have U34 := UO 34 (by decide)
              have U36 := UO 36 (by decide)
              have U37 := UO 37 (by decide)
              have U38 := UO 38 (by decide)
              have U39 := UO 39 (by decide)
              have U40 := UO 40 (by decide)
              have U41 := UO 41 (by decide)
              have U42 := UO 42 (by decide)
              have U43 := UO 43 (by decide)
              have U44 := UO 44 (by decide)
              have U45 := UO 45 (by decide)
              refine wpOp_step rfl (fun K hK => ?_)
              simp only [frAE, e0, e3, e6]
              go_simp
              refine hK _ _ ⟨updAE us 35 (.slice (some ⟨g, off, none⟩) ps.length c), by simp [frAE, updAE, e0, e3, e6], { u0 := (U0.trans I.u0), u3 := (U3.trans I.u3), u6 := (U6.trans I.u6), bel := (I.bel), o1 := (fun _ => U35), o2 := (fun h => U36.trans (I.o2 (D2.symm.trans h))), o3 := (fun h => U37.trans (I.o3 (D3.symm.trans h))), o5 := (fun h => U39.trans (I.o5 (D5.symm.trans h))), o8 := (fun h => U42.trans (I.o8 (D8.symm.trans h))), o9 := (fun h => U43.trans (I.o9 (D9.symm.trans h))), o10 := (fun h => U44.trans (I.o10 (D10.symm.trans h))), o13 := (fun h => U5.trans (I.o13 (D13.symm.trans h))), o6 := (fun h0 h1 => by rw [U40]; exact I.o6 (D6.symm.trans h0) (D7.symm.trans h1)), r0 := (fun h0 h1 => by rw [U34]; exact I.r0 (D0.symm.trans h0) (D4.symm.trans h1)), r4 := (fun h0 h1 => by rw [U38]; exact I.r4 (D4.symm.trans h0) (D7.symm.trans h1)), r7 := (fun h0 h1 => by rw [U41]; exact I.r7 (D7.symm.trans h0) (D11.symm.trans h1)), r11 := (fun h0 => by rw [U45]; exact I.r11 (D11.symm.trans h0)), s0 := (fun h0 h1 h2 h3 => by rw [U34, U40]; exact I.s0 (D0.symm.trans h0) (D4.symm.trans h1) (D6.symm.trans h2) (D7.symm.trans h3)), s4 := (fun h0 h1 h2 => by rw [U38, U40]; exact I.s4 (D4.symm.trans h0) (D7.symm.trans h1) (D6.symm.trans h2)), o12 := (fun h => by rw [U4, U45, D11]; exact I.o12 (D12.symm.trans h)), i7 := (fun h => D4.trans (I.i7 (D7.symm.trans h))), i11 := (fun h => D7.trans (I.i11 (D11.symm.trans h))) }⟩
            · skip
              have DO : ∀ n, 2 ≠ n → (d.setIfInBounds 2 true).getD n false = d.getD n false := fun n h => getD_set_ne false h
              have D2 : (d.setIfInBounds 2 true).getD 2 false = true := getD_set_sameE hun
              have D0 := DO 0 (by decide)
              have D1 := DO 1 (by decide)
              have D3 := DO 3 (by decide)
              have D4 := DO 4 (by decide)
              have D5 := DO 5 (by decide)
              have D6 := DO 6 (by decide)
              have D7 := DO 7 (by decide)
              have D8 := DO 8 (by decide)
              have D9 := DO 9 (by decide)
              have D10 := DO 10 (by decide)
              have D11 := DO 11 (by decide)
              have D12 := DO 12 (by decide)
              have D13 := DO 13 (by decide)
              have UO : ∀ n, n ≠ 36 → updAE us 36 (.int .i64 ((ps.length : Nat) : Int)) n = us n := fun n h => upd_otherE h
              have U36 : updAE us 36 (.int .i64 ((ps.length : Nat) : Int)) 36 = (.int .i64 ((ps.length : Nat) : Int)) := upd_sameE _ _ _
              have U0 := UO 0 (by decide)
              have U3 := UO 3 (by decide)
              have U6 := UO 6 (by decide)
              have U4 := UO 4 (by decide)
              have U5 := UO 5 (by decide)
              have U34 := UO 34 (by decide)
              have U35 := UO 35 (by decide)
              have U37 := UO 37 (by decide)
              have U38 := UO 38 (by decide)
              have U39 := UO 39 (by decide)
              have U40 := UO 40 (by decide)
              have U41 := UO 41 (by decide)
              have U42 := UO 42 (by decide)
              have U43 := UO 43 (by decide)
              have U44 := UO 44 (by decide)
              have U45 := UO 45 (by decide)
              refine wpOp_step rfl (fun K hK => ?_)
              simp only [frAE, e0, e3, e6]
              go_simp
              refine hK _ _ ⟨updAE us 36 (.int .i64 ((ps.length : Nat) : Int)), by simp [frAE, updAE, e0, e3, e6], { u0 := (U0.trans I.u0), u3 := (U3.trans I.u3), u6 := (U6.trans I.u6), bel := (I.bel), o1 := (fun h => U35.trans (I.o1 (D1.symm.trans h))), o2 := (fun _ => U36), o3 := (fun h => U37.trans (I.o3 (D3.symm.trans h))), o5 := (fun h => U39.trans (I.o5 (D5.symm.trans h))), o8 := (fun h => U42.trans (I.o8 (D8.symm.trans h))), o9 := (fun h => U43.trans (I.o9 (D9.symm.trans h))), o10 := (fun h => U44.trans (I.o10 (D10.symm.trans h))), o13 := (fun h => U5.trans (I.o13 (D13.symm.trans h))), o6 := (fun h0 h1 => by rw [U40]; exact I.o6 (D6.symm.trans h0) (D7.symm.trans h1)), r0 := (fun h0 h1 => by rw [U34]; exact I.r0 (D0.symm.trans h0) (D4.symm.trans h1)), r4 := (fun h0 h1 => by rw [U38]; exact I.r4 (D4.symm.trans h0) (D7.symm.trans h1)), r7 := (fun h0 h1 => by rw [U41]; exact I.r7 (D7.symm.trans h0) (D11.symm.trans h1)), r11 := (fun h0 => by rw [U45]; exact I.r11 (D11.symm.trans h0)), s0 := (fun h0 h1 h2 h3 => by rw [U34, U40]; exact I.s0 (D0.symm.trans h0) (D4.symm.trans h1) (D6.symm.trans h2) (D7.symm.trans h3)), s4 := (fun h0 h1 h2 => by rw [U38, U40]; exact I.s4 (D4.symm.trans h0) (D7.symm.trans h1) (D6.symm.trans h2)), o12 := (fun h => by rw [U4, U45, D11]; exact I.o12 (D12.symm.trans h)), i7 := (fun h => D4.trans (I.i7 (D7.symm.trans h))), i11 := (fun h => D7.trans (I.i11 (D11.symm.trans h))) }⟩
            · skip
              have DO : ∀ n, 3 ≠ n → (d.setIfInBounds 3 true).getD n false = d.getD n false := fun n h => getD_set_ne false h
              have D3 : (d.setIfInBounds 3 true).getD 3 false = true := getD_set_sameE hun
              have D0 := DO 0 (by decide)
              have D1 := DO 1 (by decide)
              have D2 := DO 2 (by decide)
              have D4 := DO 4 (by decide)
              have D5 := DO 5 (by decide)
              have D6 := DO 6 (by decide)
              have D7 := DO 7 (by decide)
              have D8 := DO 8 (by decide)
              have D9 := DO 9 (by decide)
              have D10 := DO 10 (by decide)
              have D11 := DO 11 (by decide)
              have D12 := DO 12 (by decide)
              have D13 := DO 13 (by decide)
              have e35 := I.o1 (hall ⟨1, .data⟩ (by simp) rfl)
              have e36 := I.o2 (hall ⟨2, .data⟩ (by simp) rfl)
              have UO : ∀ n, n ≠ 37 → updAE us 37 (.slice (some ⟨g, off, none⟩) ps.length c) n = us n := fun n h => upd_otherE h
              have U37 : updAE us 37 (.slice (some ⟨g, off, none⟩) ps.length c) 37 = (.slice (some ⟨g, off, none⟩) ps.length c) := upd_sameE _ _ _
              have U0 := UO 0 (by decide)
              have U3 := UO 3 (by decide)
              have U6 := UO 6 (by decide)
              have U4 := UO 4 (by decide)
              have U5 := UO 5 (by decide)
              have U34 := UO 34 (by decide)
              have U35 := UO 35 (by decide)
              have U36 := UO 36 (by decide)
              have U38 := UO 38 (by decide)
              have U39 := UO 39 (by decide)
              have U40 := UO 40 (by decide)
              have U41 := UO 41 (by decide)
              have U42 := UO 42 (by decide)
              have U43 := UO 43 (by decide)
              have U44 := UO 44 (by decide)
              have U45 := UO 45 (by decide)
              refine wpOp_step rfl (fun K hK => ?_)
              simp only [frAE, e0, e3, e6, e35, e36]
              go_simp
              try (rw [if_pos (by omega)]; go_simp)
              refine hK _ _ ⟨updAE us 37 (.slice (some ⟨g, off, none⟩) ps.length c), by simp [frAE, updAE, e0, e3, e6, e35, e36], { u0 := (U0.trans I.u0), u3 := (U3.trans I.u3), u6 := (U6.trans I.u6), bel := (I.bel), o1 := (fun h => U35.trans (I.o1 (D1.symm.trans h))), o2 := (fun h => U36.trans (I.o2 (D2.symm.trans h))), o3 := (fun _ => U37), o5 := (fun h => U39.trans (I.o5 (D5.symm.trans h))), o8 := (fun h => U42.trans (I.o8 (D8.symm.trans h))), o9 := (fun h => U43.trans (I.o9 (D9.symm.trans h))), o10 := (fun h => U44.trans (I.o10 (D10.symm.trans h))), o13 := (fun h => U5.trans (I.o13 (D13.symm.trans h))), o6 := (fun h0 h1 => by rw [U40]; exact I.o6 (D6.symm.trans h0) (D7.symm.trans h1)), r0 := (fun h0 h1 => by rw [U34]; exact I.r0 (D0.symm.trans h0) (D4.symm.trans h1)), r4 := (fun h0 h1 => by rw [U38]; exact I.r4 (D4.symm.trans h0) (D7.symm.trans h1)), r7 := (fun h0 h1 => by rw [U41]; exact I.r7 (D7.symm.trans h0) (D11.symm.trans h1)), r11 := (fun h0 => by rw [U45]; exact I.r11 (D11.symm.trans h0)), s0 := (fun h0 h1 h2 h3 => by rw [U34, U40]; exact I.s0 (D0.symm.trans h0) (D4.symm.trans h1) (D6.symm.trans h2) (D7.symm.trans h3)), s4 := (fun h0 h1 h2 => by rw [U38, U40]; exact I.s4 (D4.symm.trans h0) (D7.symm.trans h1) (D6.symm.trans h2)), o12 := (fun h => by rw [U4, U45, D11]; exact I.o12 (D12.symm.trans h)), i7 := (fun h => D4.trans (I.i7 (D7.symm.trans h))), i11 := (fun h => D7.trans (I.i11 (D11.symm.trans h))) }⟩
            · skip
              have DO : ∀ n, 4 ≠ n → (d.setIfInBounds 4 true).getD n false = d.getD n false := fun n h => getD_set_ne false h
              have D4 : (d.setIfInBounds 4 true).getD 4 false = true := getD_set_sameE hun
              have D0 := DO 0 (by decide)
              have D1 := DO 1 (by decide)
              have D2 := DO 2 (by decide)
              have D3 := DO 3 (by decide)
              have D5 := DO 5 (by decide)
              have D6 := DO 6 (by decide)
              have D7 := DO 7 (by decide)
              have D8 := DO 8 (by decide)
              have D9 := DO 9 (by decide)
              have D10 := DO 10 (by decide)
              have D11 := DO 11 (by decide)
              have D12 := DO 12 (by decide)
              have D13 := DO 13 (by decide)
              have e37 := I.o3 (hall ⟨3, .data⟩ (by simp) rfl)
              have h00 := hall ⟨0, .data⟩ (by simp) rfl
              have hRow := I.r0 (hall ⟨0, .data⟩ (by simp) rfl) (getD_tfE hun)
              refine wpOp_append_evt rfl rfl (.tmp 34) (.tmp 37) rfl wq.heap.size (us 34) [] rfl hRow (some ⟨g, off, none⟩) (c) ((ps.take ps.length)) (by show us 37 = _; rw [e37] <;> simp [hl1]) (q1.below I.bel) (.inr ⟨_, _, rfl⟩) (by simp [hl1, hl3] <;> omega) hsz ?_
              intro v W2 hR2 hB hg hv
              have UO : ∀ n, n ≠ 38 → updAE us 38 (v) n = us n := fun n h => upd_otherE h
              have U38 : updAE us 38 (v) 38 = (v) := upd_sameE _ _ _
              have U0 := UO 0 (by decide)
              have U3 := UO 3 (by decide)
              have U6 := UO 6 (by decide)
              have U4 := UO 4 (by decide)
              have U5 := UO 5 (by decide)
              have U34 := UO 34 (by decide)
              have U35 := UO 35 (by decide)
              have U36 := UO 36 (by decide)
              have U37 := UO 37 (by decide)
              have U39 := UO 39 (by decide)
              have U40 := UO 40 (by decide)
              have U41 := UO 41 (by decide)
              have U42 := UO 42 (by decide)
              have U43 := UO 43 (by decide)
              have U44 := UO 44 (by decide)
              have U45 := UO 45 (by decide)
              refine ⟨updAE us 38 v, by simp [frAE, updAE, Act.put], { u0 := (U0.trans I.u0), u3 := (U3.trans I.u3), u6 := (U6.trans I.u6), bel := (I.bel.trans hB), o1 := (fun h => U35.trans (I.o1 (D1.symm.trans h))), o2 := (fun h => U36.trans (I.o2 (D2.symm.trans h))), o3 := (fun h => U37.trans (I.o3 (D3.symm.trans h))), o5 := (fun h => U39.trans (I.o5 (D5.symm.trans h))), o8 := (fun h => U42.trans (I.o8 (D8.symm.trans h))), o9 := (fun h => U43.trans (I.o9 (D9.symm.trans h))), o10 := (fun h => U44.trans (I.o10 (D10.symm.trans h))), o13 := (fun h => U5.trans (I.o13 (D13.symm.trans h))), o6 := (fun h0 h1 => by rw [U40]; exact (I.o6 (D6.symm.trans h0) (D7.symm.trans h1)).sep (I.s0 h00 (getD_tfE hun) (D6.symm.trans h0) (D7.symm.trans h1)) hg), r0 := (fun h0 h1 => by rw [D4] at h1; cases h1), r4 := (fun _ _ => by rw [U38]; simpa using hR2), r7 := (fun h0 h1 => absurd (I.i7 (D7.symm.trans h0)) (by rw [getD_tfE hun]; exact Bool.false_ne_true)), r11 := (fun h0 => absurd (I.i7 (I.i11 (D11.symm.trans h0))) (by rw [getD_tfE hun]; exact Bool.false_ne_true)), s0 := (fun h0 h1 h2 h3 => by rw [D4] at h1; cases h1), s4 := (fun h0 h1 h2 => by rw [U38, U40]; exact sep_appE (I.o6 (D6.symm.trans h2) (D7.symm.trans h1)) (I.s0 h00 (getD_tfE hun) (D6.symm.trans h2) (D7.symm.trans h1)) hv), o12 := (fun h => by rw [U4, U45, D11]; exact I.o12 (D12.symm.trans h)), i7 := (fun _ => D4), i11 := (fun h => D7.trans (I.i11 (D11.symm.trans h))) }⟩
            · skip
              have DO : ∀ n, 5 ≠ n → (d.setIfInBounds 5 true).getD n false = d.getD n false := fun n h => getD_set_ne false h
              have D5 : (d.setIfInBounds 5 true).getD 5 false = true := getD_set_sameE hun
              have D0 := DO 0 (by decide)
              have D1 := DO 1 (by decide)
              have D2 := DO 2 (by decide)
              have D3 := DO 3 (by decide)
              have D4 := DO 4 (by decide)
              have D6 := DO 6 (by decide)
              have D7 := DO 7 (by decide)
              have D8 := DO 8 (by decide)
              have D9 := DO 9 (by decide)
              have D10 := DO 10 (by decide)
              have D11 := DO 11 (by decide)
              have D12 := DO 12 (by decide)
              have D13 := DO 13 (by decide)
              have hbx := hbox.belowB hb0 I.bel
              have c0 := hbx.c0
              have c1 := hbx.c1
              have c2 := hbx.c2
              have c3 := hbx.c3
              have c4 := hbx.c4
              have c5 := hbx.c5
              have c6 := hbx.c6
              have UO : ∀ n, n ≠ 39 → updAE us 39 (.agg #[.int .i64 x.d, .int .i64 x.k, .string ⟨x.c.toArray⟩, .int .i64 x.a, .bool x.p, .bool x.v, .bool x.r]) n = us n := fun n h => upd_otherE h
              have U39 : updAE us 39 (.agg #[.int .i64 x.d, .int .i64 x.k, .string ⟨x.c.toArray⟩, .int .i64 x.a, .bool x.p, .bool x.v, .bool x.r]) 39 = (.agg #[.int .i64 x.d, .int .i64 x.k, .string ⟨x.c.toArray⟩, .int .i64 x.a, .bool x.p, .bool x.v, .bool x.r]) := upd_sameE _ _ _
              have U0 := UO 0 (by decide)
              have U3 := UO 3 (by decide)
              have U6 := UO 6 (by decide)
              have U4 := UO 4 (by decide)
              have U5 := UO 5 (by decide)
              have U34 := UO 34 (by decide)
              have U35 := UO 35 (by decide)
              have U36 := UO 36 (by decide)
              have U37 := UO 37 (by decide)
              have U38 := UO 38 (by decide)
              have U40 := UO 40 (by decide)
              have U41 := UO 41 (by decide)
              have U42 := UO 42 (by decide)
              have U43 := UO 43 (by decide)
              have U44 := UO 44 (by decide)
              have U45 := UO 45 (by decide)
              refine wpOp_step rfl (fun K hK => ?_)
              simp only [frAE, e0, e3, e6, c0, c1, c2, c3, c4, c5, c6]
              go_simp
              refine hK _ _ ⟨updAE us 39 (.agg #[.int .i64 x.d, .int .i64 x.k, .string ⟨x.c.toArray⟩, .int .i64 x.a, .bool x.p, .bool x.v, .bool x.r]), by simp [frAE, updAE, e0, e3, e6, c0, c1, c2, c3, c4, c5, c6], { u0 := (U0.trans I.u0), u3 := (U3.trans I.u3), u6 := (U6.trans I.u6), bel := (I.bel), o1 := (fun h => U35.trans (I.o1 (D1.symm.trans h))), o2 := (fun h => U36.trans (I.o2 (D2.symm.trans h))), o3 := (fun h => U37.trans (I.o3 (D3.symm.trans h))), o5 := (fun _ => U39), o8 := (fun h => U42.trans (I.o8 (D8.symm.trans h))), o9 := (fun h => U43.trans (I.o9 (D9.symm.trans h))), o10 := (fun h => U44.trans (I.o10 (D10.symm.trans h))), o13 := (fun h => U5.trans (I.o13 (D13.symm.trans h))), o6 := (fun h0 h1 => by rw [U40]; exact I.o6 (D6.symm.trans h0) (D7.symm.trans h1)), r0 := (fun h0 h1 => by rw [U34]; exact I.r0 (D0.symm.trans h0) (D4.symm.trans h1)), r4 := (fun h0 h1 => by rw [U38]; exact I.r4 (D4.symm.trans h0) (D7.symm.trans h1)), r7 := (fun h0 h1 => by rw [U41]; exact I.r7 (D7.symm.trans h0) (D11.symm.trans h1)), r11 := (fun h0 => by rw [U45]; exact I.r11 (D11.symm.trans h0)), s0 := (fun h0 h1 h2 h3 => by rw [U34, U40]; exact I.s0 (D0.symm.trans h0) (D4.symm.trans h1) (D6.symm.trans h2) (D7.symm.trans h3)), s4 := (fun h0 h1 h2 => by rw [U38, U40]; exact I.s4 (D4.symm.trans h0) (D7.symm.trans h1) (D6.symm.trans h2)), o12 := (fun h => by rw [U4, U45, D11]; exact I.o12 (D12.symm.trans h)), i7 := (fun h => D4.trans (I.i7 (D7.symm.trans h))), i11 := (fun h => D7.trans (I.i11 (D11.symm.trans h))) }⟩
            · skip
              have DO : ∀ n, 6 ≠ n → (d.setIfInBounds 6 true).getD n false = d.getD n false := fun n h => getD_set_ne false h
              have D6 : (d.setIfInBounds 6 true).getD 6 false = true := getD_set_sameE hun
              have D0 := DO 0 (by decide)
              have D1 := DO 1 (by decide)
              have D2 := DO 2 (by decide)
              have D3 := DO 3 (by decide)
              have D4 := DO 4 (by decide)
              have D5 := DO 5 (by decide)
              have D7 := DO 7 (by decide)
              have D8 := DO 8 (by decide)
              have D9 := DO 9 (by decide)
              have D10 := DO 10 (by decide)
              have D11 := DO 11 (by decide)
              have D12 := DO 12 (by decide)
              have D13 := DO 13 (by decide)
              have e39 := I.o5 (hall ⟨5, .data⟩ (by simp) rfl)
              have UO : ∀ n, n ≠ 40 → updAE us 40 (.slice (some ⟨W.heap.size, 0, none⟩) 1 1) n = us n := fun n h => upd_otherE h
              have U40 : updAE us 40 (.slice (some ⟨W.heap.size, 0, none⟩) 1 1) 40 = (.slice (some ⟨W.heap.size, 0, none⟩) 1 1) := upd_sameE _ _ _
              have U0 := UO 0 (by decide)
              have U3 := UO 3 (by decide)
              have U6 := UO 6 (by decide)
              have U4 := UO 4 (by decide)
              have U5 := UO 5 (by decide)
              have U34 := UO 34 (by decide)
              have U35 := UO 35 (by decide)
              have U36 := UO 36 (by decide)
              have U37 := UO 37 (by decide)
              have U38 := UO 38 (by decide)
              have U39 := UO 39 (by decide)
              have U41 := UO 41 (by decide)
              have U42 := UO 42 (by decide)
              have U43 := UO 43 (by decide)
              have U44 := UO 44 (by decide)
              have U45 := UO 45 (by decide)
              refine wpOp_step rfl (fun K hK => ?_)
              simp only [frAE, e0, e3, e6, e39]
              go_simp
              refine hK _ _ ⟨updAE us 40 (.slice (some ⟨W.heap.size, 0, none⟩) 1 1), by simp [frAE, updAE, e0, e3, e6, e39], { u0 := (U0.trans I.u0), u3 := (U3.trans I.u3), u6 := (U6.trans I.u6), bel := (I.bel.alloc hsz _), o1 := (fun h => U35.trans (I.o1 (D1.symm.trans h))), o2 := (fun h => U36.trans (I.o2 (D2.symm.trans h))), o3 := (fun h => U37.trans (I.o3 (D3.symm.trans h))), o5 := (fun h => U39.trans (I.o5 (D5.symm.trans h))), o8 := (fun h => U42.trans (I.o8 (D8.symm.trans h))), o9 := (fun h => U43.trans (I.o9 (D9.symm.trans h))), o10 := (fun h => U44.trans (I.o10 (D10.symm.trans h))), o13 := (fun h => U5.trans (I.o13 (D13.symm.trans h))), o6 := (fun _ _ => by rw [U40]; exact ⟨_, rfl, heap_alloc_new W _, hsz⟩), r0 := (fun h0 h1 => by rw [U34]; exact (I.r0 (D0.symm.trans h0) (D4.symm.trans h1)).below (below_alloc _ _)), r4 := (fun h0 h1 => by rw [U38]; exact (I.r4 (D4.symm.trans h0) (D7.symm.trans h1)).below (below_alloc _ _)), r7 := (fun h0 h1 => by rw [U41]; exact (I.r7 (D7.symm.trans h0) (D11.symm.trans h1)).below (below_alloc _ _)), r11 := (fun h0 => by rw [U45]; exact (I.r11 (D11.symm.trans h0)).below (below_alloc _ _)), s0 := (fun h0 h1 h2 h3 => by rw [U34, U40]; exact sep_ltE fun k hk => (I.r0 (D0.symm.trans h0) (D4.symm.trans h1)).lt hk), s4 := (fun h0 h1 h2 => by rw [U38, U40]; exact sep_ltE fun k hk => (I.r4 (D4.symm.trans h0) (D7.symm.trans h1)).lt hk), o12 := (fun h => by rw [U4, U45, D11]; exact I.o12 (D12.symm.trans h)), i7 := (fun h => D4.trans (I.i7 (D7.symm.trans h))), i11 := (fun h => D7.trans (I.i11 (D11.symm.trans h))) }⟩
            · skip
              have DO : ∀ n, 7 ≠ n → (d.setIfInBounds 7 true).getD n false = d.getD n false := fun n h => getD_set_ne false h
              have D7 : (d.setIfInBounds 7 true).getD 7 false = true := getD_set_sameE hun
              have D0 := DO 0 (by decide)
              have D1 := DO 1 (by decide)
              have D2 := DO 2 (by decide)
              have D3 := DO 3 (by decide)
              have D4 := DO 4 (by decide)
              have D5 := DO 5 (by decide)
              have D6 := DO 6 (by decide)
              have D8 := DO 8 (by decide)
              have D9 := DO 9 (by decide)
              have D10 := DO 10 (by decide)
              have D11 := DO 11 (by decide)
              have D12 := DO 12 (by decide)
              have D13 := DO 13 (by decide)
              have h44 := hall ⟨4, .data⟩ (by simp) rfl
              obtain ⟨B, e40, hRB⟩ := (I.o6 (hall ⟨6, .data⟩ (by simp) rfl) (getD_tfE hun)).row
              have hRow := I.r4 (hall ⟨4, .data⟩ (by simp) rfl) (getD_tfE hun)
              refine wpOp_append_evt rfl rfl (.tmp 38) (.tmp 40) rfl wq.heap.size (us 38) ((ps.take ps.length)) rfl hRow (some ⟨B, 0, none⟩) 1 [x] e40 hRB (.inr ⟨_, _, rfl⟩) (by simp [hl1, hl3] <;> omega) hsz ?_
              intro v W2 hR2 hB hg hv
              have UO : ∀ n, n ≠ 41 → updAE us 41 (v) n = us n := fun n h => upd_otherE h
              have U41 : updAE us 41 (v) 41 = (v) := upd_sameE _ _ _
              have U0 := UO 0 (by decide)
              have U3 := UO 3 (by decide)
              have U6 := UO 6 (by decide)
              have U4 := UO 4 (by decide)
              have U5 := UO 5 (by decide)
              have U34 := UO 34 (by decide)
              have U35 := UO 35 (by decide)
              have U36 := UO 36 (by decide)
              have U37 := UO 37 (by decide)
              have U38 := UO 38 (by decide)
              have U39 := UO 39 (by decide)
              have U40 := UO 40 (by decide)
              have U42 := UO 42 (by decide)
              have U43 := UO 43 (by decide)
              have U44 := UO 44 (by decide)
              have U45 := UO 45 (by decide)
              refine ⟨updAE us 41 v, by simp [frAE, updAE, Act.put], { u0 := (U0.trans I.u0), u3 := (U3.trans I.u3), u6 := (U6.trans I.u6), bel := (I.bel.trans hB), o1 := (fun h => U35.trans (I.o1 (D1.symm.trans h))), o2 := (fun h => U36.trans (I.o2 (D2.symm.trans h))), o3 := (fun h => U37.trans (I.o3 (D3.symm.trans h))), o5 := (fun h => U39.trans (I.o5 (D5.symm.trans h))), o8 := (fun h => U42.trans (I.o8 (D8.symm.trans h))), o9 := (fun h => U43.trans (I.o9 (D9.symm.trans h))), o10 := (fun h => U44.trans (I.o10 (D10.symm.trans h))), o13 := (fun h => U5.trans (I.o13 (D13.symm.trans h))), o6 := (fun h0 h1 => by rw [D7] at h1; cases h1), r0 := (fun h0 h1 => absurd h44 (by rw [D4.symm.trans h1]; exact Bool.false_ne_true)), r4 := (fun h0 h1 => by rw [D7] at h1; cases h1), r7 := (fun _ _ => by rw [U41]; exact hR2), r11 := (fun h0 => absurd (I.i11 (D11.symm.trans h0)) (by rw [getD_tfE hun]; exact Bool.false_ne_true)), s0 := (fun h0 h1 h2 h3 => by rw [D7] at h3; cases h3), s4 := (fun h0 h1 h2 => by rw [D7] at h1; cases h1), o12 := (fun h => by rw [U4, U45, D11]; exact I.o12 (D12.symm.trans h)), i7 := (fun _ => D4.trans h44), i11 := (fun _ => D7) }⟩
            · skip
              have DO : ∀ n, 8 ≠ n → (d.setIfInBounds 8 true).getD n false = d.getD n false := fun n h => getD_set_ne false h
              have D8 : (d.setIfInBounds 8 true).getD 8 false = true := getD_set_sameE hun
              have D0 := DO 0 (by decide)
              have D1 := DO 1 (by decide)
              have D2 := DO 2 (by decide)
              have D3 := DO 3 (by decide)
              have D4 := DO 4 (by decide)
              have D5 := DO 5 (by decide)
              have D6 := DO 6 (by decide)
              have D7 := DO 7 (by decide)
              have D9 := DO 9 (by decide)
              have D10 := DO 10 (by decide)
              have D11 := DO 11 (by decide)
              have D12 := DO 12 (by decide)
              have D13 := DO 13 (by decide)
              have UO : ∀ n, n ≠ 42 → updAE us 42 (.slice (some ⟨g, off, none⟩) ps.length c) n = us n := fun n h => upd_otherE h
              have U42 : updAE us 42 (.slice (some ⟨g, off, none⟩) ps.length c) 42 = (.slice (some ⟨g, off, none⟩) ps.length c) := upd_sameE _ _ _
              have U0 := UO 0 (by decide)
              have U3 := UO 3 (by decide)
              have U6 := UO 6 (by decide)
              have U4 := UO 4 (by decide)
              have U5 := UO 5 (by decide)
              have U34 := UO 34 (by decide)
              have U35 := UO 35 (by decide)
              have U36 := UO 36 (by decide)
              have U37 := UO 37 (by decide)
              have U38 := UO 38 (by decide)
              have U39 := UO 39 (by decide)
              have U40 := UO 40 (by decide)
              have U41 := UO 41 (by decide)
              have U43 := UO 43 (by decide)
              have U44 := UO 44 (by decide)
              have U45 := UO 45 (by decide)
              refine wpOp_step rfl (fun K hK => ?_)
              simp only [frAE, e0, e3, e6]
              go_simp
              refine hK _ _ ⟨updAE us 42 (.slice (some ⟨g, off, none⟩) ps.length c), by simp [frAE, updAE, e0, e3, e6], { u0 := (U0.trans I.u0), u3 := (U3.trans I.u3), u6 := (U6.trans I.u6), bel := (I.bel), o1 := (fun h => U35.trans (I.o1 (D1.symm.trans h))), o2 := (fun h => U36.trans (I.o2 (D2.symm.trans h))), o3 := (fun h => U37.trans (I.o3 (D3.symm.trans h))), o5 := (fun h => U39.trans (I.o5 (D5.symm.trans h))), o8 := (fun _ => U42), o9 := (fun h => U43.trans (I.o9 (D9.symm.trans h))), o10 := (fun h => U44.trans (I.o10 (D10.symm.trans h))), o13 := (fun h => U5.trans (I.o13 (D13.symm.trans h))), o6 := (fun h0 h1 => by rw [U40]; exact I.o6 (D6.symm.trans h0) (D7.symm.trans h1)), r0 := (fun h0 h1 => by rw [U34]; exact I.r0 (D0.symm.trans h0) (D4.symm.trans h1)), r4 := (fun h0 h1 => by rw [U38]; exact I.r4 (D4.symm.trans h0) (D7.symm.trans h1)), r7 := (fun h0 h1 => by rw [U41]; exact I.r7 (D7.symm.trans h0) (D11.symm.trans h1)), r11 := (fun h0 => by rw [U45]; exact I.r11 (D11.symm.trans h0)), s0 := (fun h0 h1 h2 h3 => by rw [U34, U40]; exact I.s0 (D0.symm.trans h0) (D4.symm.trans h1) (D6.symm.trans h2) (D7.symm.trans h3)), s4 := (fun h0 h1 h2 => by rw [U38, U40]; exact I.s4 (D4.symm.trans h0) (D7.symm.trans h1) (D6.symm.trans h2)), o12 := (fun h => by rw [U4, U45, D11]; exact I.o12 (D12.symm.trans h)), i7 := (fun h => D4.trans (I.i7 (D7.symm.trans h))), i11 := (fun h => D7.trans (I.i11 (D11.symm.trans h))) }⟩
            · skip
              have DO : ∀ n, 9 ≠ n → (d.setIfInBounds 9 true).getD n false = d.getD n false := fun n h => getD_set_ne false h
              have D9 : (d.setIfInBounds 9 true).getD 9 false = true := getD_set_sameE hun
              have D0 := DO 0 (by decide)
              have D1 := DO 1 (by decide)
              have D2 := DO 2 (by decide)
              have D3 := DO 3 (by decide)
              have D4 := DO 4 (by decide)
              have D5 := DO 5 (by decide)
              have D6 := DO 6 (by decide)
              have D7 := DO 7 (by decide)
              have D8 := DO 8 (by decide)
              have D10 := DO 10 (by decide)
              have D11 := DO 11 (by decide)
              have D12 := DO 12 (by decide)
              have D13 := DO 13 (by decide)
              have UO : ∀ n, n ≠ 43 → updAE us 43 (.int .i64 ((ps.length : Nat) : Int)) n = us n := fun n h => upd_otherE h
              have U43 : updAE us 43 (.int .i64 ((ps.length : Nat) : Int)) 43 = (.int .i64 ((ps.length : Nat) : Int)) := upd_sameE _ _ _
              have U0 := UO 0 (by decide)
              have U3 := UO 3 (by decide)
              have U6 := UO 6 (by decide)
              have U4 := UO 4 (by decide)
              have U5 := UO 5 (by decide)
              have U34 := UO 34 (by decide)
              have U35 := UO 35 (by decide)
              have U36 := UO 36 (by decide)
              have U37 := UO 37 (by decide)
              have U38 := UO 38 (by decide)
              have U39 := UO 39 (by decide)
              have U40 := UO 40 (by decide)
              have U41 := UO 41 (by decide)
              have U42 := UO 42 (by decide)
              have U44 := UO 44 (by decide)
              have U45 := UO 45 (by decide)
              refine wpOp_step rfl (fun K hK => ?_)
              simp only [frAE, e0, e3, e6]
              go_simp
              refine hK _ _ ⟨updAE us 43 (.int .i64 ((ps.length : Nat) : Int)), by simp [frAE, updAE, e0, e3, e6], { u0 := (U0.trans I.u0), u3 := (U3.trans I.u3), u6 := (U6.trans I.u6), bel := (I.bel), o1 := (fun h => U35.trans (I.o1 (D1.symm.trans h))), o2 := (fun h => U36.trans (I.o2 (D2.symm.trans h))), o3 := (fun h => U37.trans (I.o3 (D3.symm.trans h))), o5 := (fun h => U39.trans (I.o5 (D5.symm.trans h))), o8 := (fun h => U42.trans (I.o8 (D8.symm.trans h))), o9 := (fun _ => U43), o10 := (fun h => U44.trans (I.o10 (D10.symm.trans h))), o13 := (fun h => U5.trans (I.o13 (D13.symm.trans h))), o6 := (fun h0 h1 => by rw [U40]; exact I.o6 (D6.symm.trans h0) (D7.symm.trans h1)), r0 := (fun h0 h1 => by rw [U34]; exact I.r0 (D0.symm.trans h0) (D4.symm.trans h1)), r4 := (fun h0 h1 => by rw [U38]; exact I.r4 (D4.symm.trans h0) (D7.symm.trans h1)), r7 := (fun h0 h1 => by rw [U41]; exact I.r7 (D7.symm.trans h0) (D11.symm.trans h1)), r11 := (fun h0 => by rw [U45]; exact I.r11 (D11.symm.trans h0)), s0 := (fun h0 h1 h2 h3 => by rw [U34, U40]; exact I.s0 (D0.symm.trans h0) (D4.symm.trans h1) (D6.symm.trans h2) (D7.symm.trans h3)), s4 := (fun h0 h1 h2 => by rw [U38, U40]; exact I.s4 (D4.symm.trans h0) (D7.symm.trans h1) (D6.symm.trans h2)), o12 := (fun h => by rw [U4, U45, D11]; exact I.o12 (D12.symm.trans h)), i7 := (fun h => D4.trans (I.i7 (D7.symm.trans h))), i11 := (fun h => D7.trans (I.i11 (D11.symm.trans h))) }⟩
            · skip
              have DO : ∀ n, 10 ≠ n → (d.setIfInBounds 10 true).getD n false = d.getD n false := fun n h => getD_set_ne false h
              have D10 : (d.setIfInBounds 10 true).getD 10 false = true := getD_set_sameE hun
              have D0 := DO 0 (by decide)
              have D1 := DO 1 (by decide)
              have D2 := DO 2 (by decide)
              have D3 := DO 3 (by decide)
              have D4 := DO 4 (by decide)
              have D5 := DO 5 (by decide)
              have D6 := DO 6 (by decide)
              have D7 := DO 7 (by decide)
              have D8 := DO 8 (by decide)
              have D9 := DO 9 (by decide)
              have D11 := DO 11 (by decide)
              have D12 := DO 12 (by decide)
              have D13 := DO 13 (by decide)
              have e42 := I.o8 (hall ⟨8, .data⟩ (by simp) rfl)
              have e43 := I.o9 (hall ⟨9, .data⟩ (by simp) rfl)
              have UO : ∀ n, n ≠ 44 → updAE us 44 (.slice (some ⟨g, off + ps.length * 7, none⟩) (ps.length - ps.length) (c - ps.length)) n = us n := fun n h => upd_otherE h
              have U44 : updAE us 44 (.slice (some ⟨g, off + ps.length * 7, none⟩) (ps.length - ps.length) (c - ps.length)) 44 = (.slice (some ⟨g, off + ps.length * 7, none⟩) (ps.length - ps.length) (c - ps.length)) := upd_sameE _ _ _
              have U0 := UO 0 (by decide)
              have U3 := UO 3 (by decide)
              have U6 := UO 6 (by decide)
              have U4 := UO 4 (by decide)
              have U5 := UO 5 (by decide)
              have U34 := UO 34 (by decide)
              have U35 := UO 35 (by decide)
              have U36 := UO 36 (by decide)
              have U37 := UO 37 (by decide)
              have U38 := UO 38 (by decide)
              have U39 := UO 39 (by decide)
              have U40 := UO 40 (by decide)
              have U41 := UO 41 (by decide)
              have U42 := UO 42 (by decide)
              have U43 := UO 43 (by decide)
              have U45 := UO 45 (by decide)
              refine wpOp_step rfl (fun K hK => ?_)
              simp only [frAE, e0, e3, e6, e42, e43]
              go_simp
              try (rw [if_pos (by omega)]; go_simp)
              refine hK _ _ ⟨updAE us 44 (.slice (some ⟨g, off + ps.length * 7, none⟩) (ps.length - ps.length) (c - ps.length)), by simp [frAE, updAE, e0, e3, e6, e42, e43, e1s], { u0 := (U0.trans I.u0), u3 := (U3.trans I.u3), u6 := (U6.trans I.u6), bel := (I.bel), o1 := (fun h => U35.trans (I.o1 (D1.symm.trans h))), o2 := (fun h => U36.trans (I.o2 (D2.symm.trans h))), o3 := (fun h => U37.trans (I.o3 (D3.symm.trans h))), o5 := (fun h => U39.trans (I.o5 (D5.symm.trans h))), o8 := (fun h => U42.trans (I.o8 (D8.symm.trans h))), o9 := (fun h => U43.trans (I.o9 (D9.symm.trans h))), o10 := (fun _ => U44), o13 := (fun h => U5.trans (I.o13 (D13.symm.trans h))), o6 := (fun h0 h1 => by rw [U40]; exact I.o6 (D6.symm.trans h0) (D7.symm.trans h1)), r0 := (fun h0 h1 => by rw [U34]; exact I.r0 (D0.symm.trans h0) (D4.symm.trans h1)), r4 := (fun h0 h1 => by rw [U38]; exact I.r4 (D4.symm.trans h0) (D7.symm.trans h1)), r7 := (fun h0 h1 => by rw [U41]; exact I.r7 (D7.symm.trans h0) (D11.symm.trans h1)), r11 := (fun h0 => by rw [U45]; exact I.r11 (D11.symm.trans h0)), s0 := (fun h0 h1 h2 h3 => by rw [U34, U40]; exact I.s0 (D0.symm.trans h0) (D4.symm.trans h1) (D6.symm.trans h2) (D7.symm.trans h3)), s4 := (fun h0 h1 h2 => by rw [U38, U40]; exact I.s4 (D4.symm.trans h0) (D7.symm.trans h1) (D6.symm.trans h2)), o12 := (fun h => by rw [U4, U45, D11]; exact I.o12 (D12.symm.trans h)), i7 := (fun h => D4.trans (I.i7 (D7.symm.trans h))), i11 := (fun h => D7.trans (I.i11 (D11.symm.trans h))) }⟩
            · skip
              have DO : ∀ n, 11 ≠ n → (d.setIfInBounds 11 true).getD n false = d.getD n false := fun n h => getD_set_ne false h
              have D11 : (d.setIfInBounds 11 true).getD 11 false = true := getD_set_sameE hun
              have D0 := DO 0 (by decide)
              have D1 := DO 1 (by decide)
              have D2 := DO 2 (by decide)
              have D3 := DO 3 (by decide)
              have D4 := DO 4 (by decide)
              have D5 := DO 5 (by decide)
              have D6 := DO 6 (by decide)
              have D7 := DO 7 (by decide)
              have D8 := DO 8 (by decide)
              have D9 := DO 9 (by decide)
              have D10 := DO 10 (by decide)
              have D12 := DO 12 (by decide)
              have D13 := DO 13 (by decide)
              have e44 := I.o10 (hall ⟨10, .data⟩ (by simp) rfl)
              have h77 := hall ⟨7, .data⟩ (by simp) rfl
              have hRow := I.r7 (hall ⟨7, .data⟩ (by simp) rfl) (getD_tfE hun)
              refine wpOp_append_evt rfl rfl (.tmp 41) (.tmp 44) rfl wq.heap.size (us 41) ((ps.take ps.length) ++ [x]) rfl hRow (some ⟨g, off + ps.length * 7, none⟩) ((c - ps.length)) ((ps.drop ps.length)) (by show us 44 = _; rw [e44] <;> simp [hl3]) (q3.below I.bel) (.inr ⟨_, _, rfl⟩) (by simp [hl1, hl3] <;> omega) hsz ?_
              intro v W2 hR2 hB hg hv
              have UO : ∀ n, n ≠ 45 → updAE us 45 (v) n = us n := fun n h => upd_otherE h
              have U45 : updAE us 45 (v) 45 = (v) := upd_sameE _ _ _
              have U0 := UO 0 (by decide)
              have U3 := UO 3 (by decide)
              have U6 := UO 6 (by decide)
              have U4 := UO 4 (by decide)
              have U5 := UO 5 (by decide)
              have U34 := UO 34 (by decide)
              have U35 := UO 35 (by decide)
              have U36 := UO 36 (by decide)
              have U37 := UO 37 (by decide)
              have U38 := UO 38 (by decide)
              have U39 := UO 39 (by decide)
              have U40 := UO 40 (by decide)
              have U41 := UO 41 (by decide)
              have U42 := UO 42 (by decide)
              have U43 := UO 43 (by decide)
              have U44 := UO 44 (by decide)
              refine ⟨updAE us 45 v, by simp [frAE, updAE, Act.put], { u0 := (U0.trans I.u0), u3 := (U3.trans I.u3), u6 := (U6.trans I.u6), bel := (I.bel.trans hB), o1 := (fun h => U35.trans (I.o1 (D1.symm.trans h))), o2 := (fun h => U36.trans (I.o2 (D2.symm.trans h))), o3 := (fun h => U37.trans (I.o3 (D3.symm.trans h))), o5 := (fun h => U39.trans (I.o5 (D5.symm.trans h))), o8 := (fun h => U42.trans (I.o8 (D8.symm.trans h))), o9 := (fun h => U43.trans (I.o9 (D9.symm.trans h))), o10 := (fun h => U44.trans (I.o10 (D10.symm.trans h))), o13 := (fun h => U5.trans (I.o13 (D13.symm.trans h))), o6 := (fun h0 h1 => absurd h77 (by rw [D7.symm.trans h1]; exact Bool.false_ne_true)), r0 := (fun h0 h1 => absurd (I.i7 h77) (by rw [D4.symm.trans h1]; exact Bool.false_ne_true)), r4 := (fun h0 h1 => absurd h77 (by rw [D7.symm.trans h1]; exact Bool.false_ne_true)), r7 := (fun h0 h1 => by rw [D11] at h1; cases h1), r11 := (fun _ => by rw [U45]; exact hR2), s0 := (fun h0 h1 h2 h3 => by rw [U34, U40]; exact I.s0 (D0.symm.trans h0) (D4.symm.trans h1) (D6.symm.trans h2) (D7.symm.trans h3)), s4 := (fun h0 h1 h2 => by rw [U38, U40]; exact I.s4 (D4.symm.trans h0) (D7.symm.trans h1) (D6.symm.trans h2)), o12 := (fun h => absurd (I.o12 (D12.symm.trans h)).2 (by rw [getD_tfE hun]; exact Bool.false_ne_true)), i7 := (fun h => D4.trans (I.i7 (D7.symm.trans h))), i11 := (fun _ => D7.trans h77) }⟩
            · skip
              have DO : ∀ n, 12 ≠ n → (d.setIfInBounds 12 true).getD n false = d.getD n false := fun n h => getD_set_ne false h
              have D12 : (d.setIfInBounds 12 true).getD 12 false = true := getD_set_sameE hun
              have D0 := DO 0 (by decide)
              have D1 := DO 1 (by decide)
              have D2 := DO 2 (by decide)
              have D3 := DO 3 (by decide)
              have D4 := DO 4 (by decide)
              have D5 := DO 5 (by decide)
              have D6 := DO 6 (by decide)
              have D7 := DO 7 (by decide)
              have D8 := DO 8 (by decide)
              have D9 := DO 9 (by decide)
              have D10 := DO 10 (by decide)
              have D11 := DO 11 (by decide)
              have D13 := DO 13 (by decide)
              have h11 := hall ⟨11, .data⟩ (by simp) rfl
              have UO : ∀ n, n ≠ 4 → updAE us 4 (us 45) n = us n := fun n h => upd_otherE h
              have U4 : updAE us 4 (us 45) 4 = (us 45) := upd_sameE _ _ _
              have U0 := UO 0 (by decide)
              have U3 := UO 3 (by decide)
              have U6 := UO 6 (by decide)
              have U5 := UO 5 (by decide)
              have U34 := UO 34 (by decide)
              have U35 := UO 35 (by decide)
              have U36 := UO 36 (by decide)
              have U37 := UO 37 (by decide)
              have U38 := UO 38 (by decide)
              have U39 := UO 39 (by decide)
              have U40 := UO 40 (by decide)
              have U41 := UO 41 (by decide)
              have U42 := UO 42 (by decide)
              have U43 := UO 43 (by decide)
              have U44 := UO 44 (by decide)
              have U45 := UO 45 (by decide)
              refine wpOp_step rfl (fun K hK => ?_)
              simp only [frAE, e0, e3, e6]
              go_simp
              refine hK _ _ ⟨updAE us 4 (us 45), by simp [frAE, updAE, e0, e3, e6], { u0 := (U0.trans I.u0), u3 := (U3.trans I.u3), u6 := (U6.trans I.u6), bel := (I.bel), o1 := (fun h => U35.trans (I.o1 (D1.symm.trans h))), o2 := (fun h => U36.trans (I.o2 (D2.symm.trans h))), o3 := (fun h => U37.trans (I.o3 (D3.symm.trans h))), o5 := (fun h => U39.trans (I.o5 (D5.symm.trans h))), o8 := (fun h => U42.trans (I.o8 (D8.symm.trans h))), o9 := (fun h => U43.trans (I.o9 (D9.symm.trans h))), o10 := (fun h => U44.trans (I.o10 (D10.symm.trans h))), o13 := (fun h => U5.trans (I.o13 (D13.symm.trans h))), o6 := (fun h0 h1 => by rw [U40]; exact I.o6 (D6.symm.trans h0) (D7.symm.trans h1)), r0 := (fun h0 h1 => by rw [U34]; exact I.r0 (D0.symm.trans h0) (D4.symm.trans h1)), r4 := (fun h0 h1 => by rw [U38]; exact I.r4 (D4.symm.trans h0) (D7.symm.trans h1)), r7 := (fun h0 h1 => by rw [U41]; exact I.r7 (D7.symm.trans h0) (D11.symm.trans h1)), r11 := (fun h0 => by rw [U45]; exact I.r11 (D11.symm.trans h0)), s0 := (fun h0 h1 h2 h3 => by rw [U34, U40]; exact I.s0 (D0.symm.trans h0) (D4.symm.trans h1) (D6.symm.trans h2) (D7.symm.trans h3)), s4 := (fun h0 h1 h2 => by rw [U38, U40]; exact I.s4 (D4.symm.trans h0) (D7.symm.trans h1) (D6.symm.trans h2)), o12 := (fun _ => ⟨by rw [U4, U45], by rw [D11]; exact h11⟩), i7 := (fun h => D4.trans (I.i7 (D7.symm.trans h))), i11 := (fun h => D7.trans (I.i11 (D11.symm.trans h))) }⟩
            · skip
              have DO : ∀ n, 13 ≠ n → (d.setIfInBounds 13 true).getD n false = d.getD n false := fun n h => getD_set_ne false h
              have D13 : (d.setIfInBounds 13 true).getD 13 false = true := getD_set_sameE hun
              have D0 := DO 0 (by decide)
              have D1 := DO 1 (by decide)
              have D2 := DO 2 (by decide)
              have D3 := DO 3 (by decide)
              have D4 := DO 4 (by decide)
              have D5 := DO 5 (by decide)
              have D6 := DO 6 (by decide)
              have D7 := DO 7 (by decide)
              have D8 := DO 8 (by decide)
              have D9 := DO 9 (by decide)
              have D10 := DO 10 (by decide)
              have D11 := DO 11 (by decide)
              have D12 := DO 12 (by decide)
              have UO : ∀ n, n ≠ 5 → updAE us 5 (.int .i64 0) n = us n := fun n h => upd_otherE h
              have U5 : updAE us 5 (.int .i64 0) 5 = (.int .i64 0) := upd_sameE _ _ _
              have U0 := UO 0 (by decide)
              have U3 := UO 3 (by decide)
              have U6 := UO 6 (by decide)
              have U4 := UO 4 (by decide)
              have U34 := UO 34 (by decide)
              have U35 := UO 35 (by decide)
              have U36 := UO 36 (by decide)
              have U37 := UO 37 (by decide)
              have U38 := UO 38 (by decide)
              have U39 := UO 39 (by decide)
              have U40 := UO 40 (by decide)
              have U41 := UO 41 (by decide)
              have U42 := UO 42 (by decide)
              have U43 := UO 43 (by decide)
              have U44 := UO 44 (by decide)
              have U45 := UO 45 (by decide)
              refine wpOp_step rfl (fun K hK => ?_)
              simp only [frAE, e0, e3, e6]
              go_simp
              refine hK _ _ ⟨updAE us 5 (.int .i64 0), by simp [frAE, updAE, e0, e3, e6], { u0 := (U0.trans I.u0), u3 := (U3.trans I.u3), u6 := (U6.trans I.u6), bel := (I.bel), o1 := (fun h => U35.trans (I.o1 (D1.symm.trans h))), o2 := (fun h => U36.trans (I.o2 (D2.symm.trans h))), o3 := (fun h => U37.trans (I.o3 (D3.symm.trans h))), o5 := (fun h => U39.trans (I.o5 (D5.symm.trans h))), o8 := (fun h => U42.trans (I.o8 (D8.symm.trans h))), o9 := (fun h => U43.trans (I.o9 (D9.symm.trans h))), o10 := (fun h => U44.trans (I.o10 (D10.symm.trans h))), o13 := (fun _ => U5), o6 := (fun h0 h1 => by rw [U40]; exact I.o6 (D6.symm.trans h0) (D7.symm.trans h1)), r0 := (fun h0 h1 => by rw [U34]; exact I.r0 (D0.symm.trans h0) (D4.symm.trans h1)), r4 := (fun h0 h1 => by rw [U38]; exact I.r4 (D4.symm.trans h0) (D7.symm.trans h1)), r7 := (fun h0 h1 => by rw [U41]; exact I.r7 (D7.symm.trans h0) (D11.symm.trans h1)), r11 := (fun h0 => by rw [U45]; exact I.r11 (D11.symm.trans h0)), s0 := (fun h0 h1 h2 h3 => by rw [U34, U40]; exact I.s0 (D0.symm.trans h0) (D4.symm.trans h1) (D6.symm.trans h2) (D7.symm.trans h3)), s4 := (fun h0 h1 h2 => by rw [U38, U40]; exact I.s4 (D4.symm.trans h0) (D7.symm.trans h1) (D6.symm.trans h2)), o12 := (fun h => by rw [U4, U45, D11]; exact I.o12 (D12.symm.trans h)), i7 := (fun h => D4.trans (I.i7 (D7.symm.trans h))), i11 := (fun h => D7.trans (I.i11 (D11.symm.trans h))) }⟩
          · intro d a W hd hall hI
            obtain ⟨us, rfl, I⟩ := hI
            have D : ∀ k, k < 14 → d.getD k false = true := fun k hk => by
              have := hall k hk
              have hk2 : k < d.size := by rw [hd]; exact hk
              simp [hk2] at this ⊢; exact this
            obtain ⟨h7, h11⟩ := I.o12 (D 12 (by decide))
            have h13 := I.o13 (D 13 (by decide))
            obtain ⟨O, q, e45, hO⟩ := I.r11 h11
            have e7 := h7.trans e45
            have hbel := I.bel
            rw [hjoin] at e7 hO
            clear I hall D h7 e45
            simp only [frAE, e7, h13]
            go_wp2_with fail
            go_ret2
            rw [HE.out]
            exact ⟨O, q, rfl, hO.mono hkq.bel.size, hkq.bel.trans (hbel.mono hkq.bel.size)⟩
theorem adde_s (A : Option Addr) (c : Nat) (ps : List Evt) (x : Evt) (w : World) (h : ETblC w A c ps) (hx : x.sz ≤ 1048600) :
    Calls Try.prog 155 #[.slice A ps.length c, .agg #[.int .i64 x.d, .int .i64 x.k, .string ⟨x.c.toArray⟩, .int .i64 x.a, .bool x.p, .bool x.v, .bool x.r]] w (NewEvtsC w (addR ps x)) := by
  have kb := KeepE.new w x
  have hxc := sz_e hx
  rcases Bool.eq_false_or_eq_true (logB ps) with hr | hr
  · rcases Bool.eq_false_or_eq_true x.ok with hv | hv
    · by_cases h15 : ps.length = 15
      · have HT := Lib.hid (logS_q (c := c) (h.below kb.bel).tbl hr)
        have HV := Lib.hid (fun w => evalid_s x w hxc)
        rw [hv] at HV
        have E := Lib.hid (addR_lim hr hv h15)
        have z15 : ((ps.length : Int) == 15) = true := by rw [beq_iff_eq]; omega
        clear h hv hr h15
        go_enter Try.func155, Try.ntmps155
        go_wp2_with (first
          | (go_at_call 76; refine HT.out.mono ?_; rintro e w1 ⟨rfl, b1⟩; have kb1 := kb.step b1; have c0 := kb1.cells.c0; have c1 := kb1.cells.c1; have c2 := kb1.cells.c2; have c3 := kb1.cells.c3; have c4 := kb1.cells.c4; have c5 := kb1.cells.c5; have c6 := kb1.cells.c6)
          | (go_at_call 72; refine (HV.out _).mono ?_; rintro e w2 ⟨rfl, b2⟩; have kb2 := kb1.step b2))
        go_ret2
        unfold NewEvtsC
        rw [E.out]
        exact ⟨none, 0, rfl, World.ownsRow_nil _ _ _ _, kb2.bel⟩
      · exact adde_s_ok A c ps x w h.tbl h.adr h.cap hx hr hv h15
    · have HT := Lib.hid (logS_q (c := c) (h.below kb.bel).tbl hr)
      have HV := Lib.hid (fun w => evalid_s x w hxc)
      rw [hv] at HV
      have E := Lib.hid (@addR_no ps x (.inr hv))
      clear h hv
      go_enter Try.func155, Try.ntmps155
      go_wp2_with (first
        | (go_at_call 76; refine HT.out.mono ?_; rintro e w1 ⟨rfl, b1⟩; have kb1 := kb.step b1; have c0 := kb1.cells.c0; have c1 := kb1.cells.c1; have c2 := kb1.cells.c2; have c3 := kb1.cells.c3; have c4 := kb1.cells.c4; have c5 := kb1.cells.c5; have c6 := kb1.cells.c6)
        | (go_at_call 72; refine (HV.out _).mono ?_; rintro e w2 ⟨rfl, b2⟩; have kb2 := kb1.step b2))
      go_ret2
      unfold NewEvtsC
      rw [E.out]
      exact ⟨none, 0, rfl, World.ownsRow_nil _ _ _ _, kb2.bel⟩
  · have HT := Lib.hid (logS_q (c := c) (h.below kb.bel).tbl hr)
    have E := Lib.hid (@addR_no ps x (.inl hr))
    clear h hr
    go_enter Try.func155, Try.ntmps155
    go_wp2_with (go_at_call 76; refine HT.out.mono ?_; rintro e w1 ⟨rfl, b1⟩)
    go_ret2
    unfold NewEvtsC
    rw [E.out]
    exact ⟨none, 0, rfl, World.ownsRow_nil _ _ _ _, belowGo kb.bel b1⟩
end Go.Proofs.Ytjcklmhgjdmjoaa

