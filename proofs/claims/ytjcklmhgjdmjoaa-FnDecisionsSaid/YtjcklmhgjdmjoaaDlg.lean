/- DecideLog, both sides. (by gen_dlg.py) -/
import Derived.Test.YtjcklmhgjdmjoaaDci
import Derived.Test.YtjcklmhgjdmjoaaDcnh
import Derived.Test.YtjcklmhgjdmjoaaClk
import Derived.Test.YtjcklmhgjdmjoaaClb
import Derived.Test.YtjcklmhgjdmjoaaEvi
import Derived.Test.YtjcklmhgjdmjoaaEvs
import Derived.Test.YtjcklmhgjdmjoaaEvm
namespace Go.Proofs.Ytjcklmhgjdmjoaa
open Go.ChangeShapes Go.WideShapes Go.ChangeAt Go.RowKit
set_option linter.unusedVariables false

def dlR (ps : List Cls) (es : List Evt) : List Dcn × Int := if rbB ps = true ∧ logB es = true then (es.map (decE ps), 0) else ([], 1)
theorem dlR_no {ps : List Cls} {es : List Evt} (h : rbB ps = false ∨ logB es = false) : dlR ps es = ([], 1) := by
  unfold dlR; rw [if_neg]; rintro ⟨h1, h2⟩; rcases h with h | h <;> simp_all
theorem dlR_ok {ps : List Cls} {es : List Evt} (h : rbB ps = true) (h1 : logB es = true) : dlR ps es = (es.map (decE ps), 0) := by unfold dlR; rw [if_pos ⟨h, h1⟩]
theorem dlR_len (ps : List Cls) (es : List Evt) : (dlR ps es).1.length ≤ es.length ∧ ∀ x ∈ (dlR ps es).1, x.cs.length ≤ 13 := by
  rcases Bool.eq_false_or_eq_true (rbB ps) with a | a
  · rcases Bool.eq_false_or_eq_true (logB es) with b | b
    · rw [dlR_ok a b]
      refine ⟨by simp, fun x hx => ?_⟩
      obtain ⟨q, _, rfl⟩ := List.mem_map.1 hx
      show (decL ps q).length ≤ 13
      rw [decL_len]; exact (chainL_pos (rb_of a) q).2
    · rw [dlR_no (.inr b)]; exact ⟨by simp, fun x hx => by cases hx⟩
  · rw [dlR_no (.inl a)]; exact ⟨by simp, fun x hx => by cases hx⟩
theorem dcnInfo : (Try.prog.info? 31).map (fun i => (i.zero, i.size, i.bytes)) = some (some (.agg #[.int .i64 0, .slice none 0 0]), 2, 32) := by kernel_rfl
theorem DcnO.nil (w : World) (lo hi : Nat) : DcnO w lo hi none 0 0 [] := ⟨[], World.ownsRow_nil _ _ _ _, rfl, fun k x e h => (by simp at h), fun g h => (by simp [Value.ownBlock] at h), fun x hx => (by cases hx), List.Pairwise.nil⟩
theorem DcnPt.grownO {w w' : World} {lo k : Nat} {hs : List Dch} {es : List Dcn} {ob : Option Nat} (h : DcnPt w lo hs es k) (hg : w.grownBy w' ob) (hn : ∀ x ∈ hs, ∀ g, x.ob = some g → ob ≠ some g) : DcnPt w' lo hs es k :=
  ⟨h.len, fun j x e h1 h2 => ⟨(h.one j x e h1 h2).1, World.ownsRow.kept (h.one j x e h1 h2).2 hg (by
    cases hb : (Value.slice x.A x.n x.c).ownBlock with
    | none => exact .inl rfl
    | some b => exact .inr fun e1 => hn x (List.mem_of_getElem? h1) b hb e1.symm)⟩, h.sep⟩
/-- The list as far as it has come, its chains beside it. -/
structure DAcc (w : World) (lo : Nat) (O : Option Addr) (k q : Nat) (hs : List Dch) (ds : List Dcn) : Prop where
  pt : DcnPt w lo hs ds k
  row : w.ownsRow lo 31 2 (.slice O k q) k (hs.flatMap Dch.cells)
  sep : ∀ x ∈ hs, ∀ g, x.ob = some g → (Value.slice O k q).ownBlock ≠ some g
theorem DAcc.below {w w' : World} {lo : Nat} {O : Option Addr} {k q : Nat} {hs : List Dch} {ds : List Dcn} (h : DAcc w lo O k q hs ds) (hb : Below w.heap.size w w') : DAcc w' lo O k q hs ds := ⟨h.pt.below hb, own_below h.row hb, h.sep⟩
theorem DAcc.next {w w1 w' : World} {lo : Nat} {O O' : Option Addr} {k q q' : Nat} {hs : List Dch} {ds : List Dcn} {e : Dcn} {A1 : Option Addr} {n1 c1 : Nat} (h : DAcc w lo O k q hs ds) (hb : Below w.heap.size w w1) (he : ds[k]? = some e)
    (ho : Ost w1 w.heap.size A1 n1 c1 e.cs) (hlo : lo ≤ w.heap.size) (hrow : w'.ownsRow lo 31 2 (.slice O' (k + 1) q') (k + 1) (hs.flatMap Dch.cells ++ [.int .i64 e.y, .slice A1 n1 c1]))
    (hg : w1.grownBy w' (Value.slice O k q).ownBlock) (hk : (Value.slice O' (k + 1) q').ownBlock = (Value.slice O k q).ownBlock ∨ ∃ j, w1.heap.size ≤ j ∧ (Value.slice O' (k + 1) q').ownBlock = some j) :
    DAcc w' lo O' (k + 1) q' (hs ++ [⟨e.y, A1, n1, c1⟩]) ds := by
  have hkl : k < ds.length := (List.getElem?_eq_some_iff.1 he).1
  have h1 : DcnPt w1 lo (hs ++ [⟨e.y, A1, n1, c1⟩]) ds (k + 1) := h.pt.snoc hb he ho hlo
  have sp : ∀ x ∈ hs ++ [(⟨e.y, A1, n1, c1⟩ : Dch)], ∀ g, x.ob = some g → (Value.slice O k q).ownBlock ≠ some g := fun x hx g hxg e1 => by
    rcases List.mem_append.1 hx with hx | hx
    · exact h.sep x hx g hxg e1
    · simp at hx; subst hx
      have a1 := ho.lo g hxg
      have a2 := (h.row.lt g e1).2
      omega
  refine ⟨h1.grownO hg sp, by rw [List.flatMap_append]; simpa [Dch.cells] using hrow, fun x hx g hxg e1 => ?_⟩
  rcases hk with hk | ⟨j, hj, hk⟩
  · exact sp x hx g hxg (by rw [← hk]; exact e1)
  · have a1 := h1.ob_lt (by omega) hx hxg
    rw [hk] at e1
    injection e1 with e1
    omega
theorem DAcc.done {w : World} {lo hi : Nat} {O : Option Addr} {q : Nat} {hs : List Dch} {ds : List Dcn} (h : DAcc w lo O ds.length q hs ds) (hhi : w.heap.size ≤ hi) : DcnO w lo hi O ds.length q ds := h.pt.done h.row (Nat.le_refl _) hhi h.sep
theorem DAcc.new (w : World) (ds : List Dcn) : DAcc (w.alloc (.cells #[] 31)) w.heap.size (some ⟨w.heap.size, 0, none⟩) 0 0 [] ds :=
  ⟨DcnPt.nil _ _ _, World.ownsRow_made w #[] 0 (Nat.le_refl _) (by decide) (by simp), fun x hx => (by cases hx)⟩
set_option maxRecDepth 100000 in
set_option maxHeartbeats 8000000 in
theorem dl_i (A : Option Addr) (c : Nat) (ps : List Cls) (B : Option Addr) (d : Nat) (es : List Evt) (w : World) (h : CTblC w A c ps) (h2 : ETbl w B es) :
    Calls Try.prog 18 #[.slice A ps.length c, .slice B es.length d] w (NewDcnsC w (dlR ps es)) := by
  have hcap := h.cap
  replace h := h.tbl
  obtain ⟨i0, hi, hz0, hz1, hz2⟩ := info_parts dcnInfo
  have hn := h.len
  rcases Bool.eq_false_or_eq_true (rbB ps) with hr | hr
  · have HT := Lib.hid (fun W (hb : Below w.heap.size w W) => rbI_q (c := c) (h.below hb) hr)
    rcases Bool.eq_false_or_eq_true (logB es) with h1 | h1
    · have HL := Lib.hid (fun W (hb : Below w.heap.size w W) => logI_q (c := d) (h2.below hb) h1)
      have E := Lib.hid (dlR_ok hr h1)
      have HD := Lib.hid (fun p W (b : Below w.heap.size w W) => decide_i A c ps p W (h.below b) (rb_of hr) hcap)
      have HE := Lib.hid (fun W (b : Below w.heap.size w W) => h2.row.below b)
      have hel := h2.len
      clear h h2 hr h1
      go_enter Try.func18, Try.ntmps18
      go_wp2_with (first
        | (go_at_call 68; refine (HT.out _ (Below.refl _ _)).mono ?_; rintro e w1 ⟨rfl, b1⟩)
        | (go_at_call 75; refine (HL.out _ b1).mono ?_; rintro e w2 ⟨rfl, b2⟩; have t2 := belowGo b1 b2))
      clear HT HL b1 b2
      have N0 := DAcc.new w2 (es.map (decE ps))
      have s2 := t2.size
      go_wp2_with fail
      go_loopw [6, 20] (fun v i wr => ∃ (k : Nat) (O : Option Addr) (q : Nat) (hs : List Dch), k ≤ es.length ∧ i = .int .i64 k ∧ v = .slice O k q ∧ Hid (DAcc wr w2.heap.size O k q hs (es.map (decE ps))) ∧ w2.heap.size ≤ wr.heap.size ∧ Below w.heap.size w wr) (fun _ i _ => es.length - (intOf i).toNat)
      case atStart => exact ⟨0, _, 0, [], Nat.zero_le _, rfl, rfl, Lib.hid N0, by simp, belowGo t2 (below_alloc _ _)⟩
      case round =>
        clear N0
        obtain ⟨k, O, q, hs, hk, rfl, rfl, HA, hsz, hb⟩ := hrel
        by_cases hlt : k < es.length
        · obtain ⟨b, off, p, rfl, hl, hp, h4⟩ := (HE.out wr hb).at hlt
          have c0 := h4.c0; have c1 := h4.c1; have c2 := h4.c2; have c3 := h4.c3; have c4 := h4.c4; have c5 := h4.c5; have c6 := h4.c6
          have HX : Hid ((es.map (decE ps))[k]? = some (decE ps p)) := Lib.hid (by rw [List.getElem?_map, hp.out]; rfl)
          have bB := below_alloc wr (.cells #[.int .i64 p.d, .int .i64 p.k, .string ⟨p.c.toArray⟩, .int .i64 p.a, .bool p.p, .bool p.v, .bool p.r] 26)
          have HBX := Lib.hid bB
          have HC := Lib.hid (HD.out p (wr.alloc (.cells #[.int .i64 p.d, .int .i64 p.k, .string ⟨p.c.toArray⟩, .int .i64 p.a, .bool p.p, .bool p.v, .bool p.r] 26)) (belowGo hb bB))
          clear bB
          have hx13 : True := trivial
          obtain ⟨x, hx⟩ : ∃ x, x = decE ps p := ⟨_, rfl⟩
          rw [← hx] at HC HX
          clear hx h4 hp
          go_wp2_with (first
            | (go_at_call 70; refine HC.out.mono ?_; rintro e w3 ⟨A1, c1, rfl, o1, b3⟩; have hb3 := belowGo HBX.out b3; have hr3 := own_below HA.out.row hb3; have hs3 : w2.heap.size ≤ w3.heap.size := Nat.le_trans hsz hb3.size; have O1 := Lib.hid (o1.mono HBX.out.size))
            | (at_builtin; refine wpList_push2 _ rfl (.tmp 24) (.tmp 28) 37 rfl w2.heap.size 31 i0 _ 2 32 Try.underlying37 hi hz0 hz1 hz2 rfl (by decide) _ k _ rfl hr3 [.int .i64 x.y, .slice A1 x.cs.length c1] rfl (by simp [Value.oneCell']) rfl (by unfold maxLen; omega) (by omega) hs3 ?_; intro v' w' hown' hg' hk'))
          obtain ⟨O', q', rfl⟩ := own_form hown'
          have HN := Lib.hid (HA.out.next hb3 HX.out O1.out hsz hown' hg' hk')
          have hbw : Below w.heap.size w w' := (belowGo hb hb3).grown hg' (belowGo hb hb3).size (fun j hj => Nat.le_trans s2 (hr3.lt j hj).1)
          go_roundw
          case rel => exact ⟨k + 1, O', q', _, by omega, by go_num, rfl, HN, Nat.le_trans hs3 hg'.size, hbw⟩
          case measure => simp [intOf]; omega
        · obtain rfl : k = es.length := by omega
          have hlm : (es.map (decE ps)).length = es.length := by simp
          clear HE HD
          go_wp2_with fail
          go_ret2
          rw [E.out]
          have HQ := HA.out
          rw [← hlm] at HQ
          exact ⟨O, q, by simp only [hlm] <;> rfl, (HQ.done (Nat.le_refl _)).mono t2.size (Nat.le_refl _), hb⟩
    · have HL := Lib.hid (fun W (hb : Below w.heap.size w W) => logI_q (c := d) (h2.below hb) h1)
      have E := Lib.hid (@dlR_no ps es (.inr h1))
      clear h h2 hr h1
      go_enter Try.func18, Try.ntmps18
      go_wp2_with (first
        | (go_at_call 68; refine (HT.out _ (Below.refl _ _)).mono ?_; rintro e w1 ⟨rfl, b1⟩)
        | (go_at_call 75; refine (HL.out _ b1).mono ?_; rintro e w2 ⟨rfl, b2⟩; have t2 := belowGo b1 b2))
      go_ret2
      rw [E.out]
      exact ⟨none, 0, rfl, DcnO.nil _ _ _, t2⟩
  · have HT := Lib.hid (fun W (hb : Below w.heap.size w W) => rbI_q (c := c) (h.below hb) hr)
    have E := Lib.hid (@dlR_no ps es (.inl hr))
    clear h h2 hr
    go_enter Try.func18, Try.ntmps18
    go_wp2_with (first
      | (go_at_call 68; refine (HT.out _ (Below.refl _ _)).mono ?_; rintro e w1 ⟨rfl, b1⟩))
    go_ret2
    rw [E.out]
    exact ⟨none, 0, rfl, DcnO.nil _ _ _, b1⟩
set_option maxRecDepth 100000 in
set_option maxHeartbeats 8000000 in
theorem dl_s (A : Option Addr) (c : Nat) (ps : List Cls) (B : Option Addr) (d : Nat) (es : List Evt) (w : World) (h : CTbl w A ps) (h2 : ETbl w B es) :
    Calls Try.prog 19 #[.slice A ps.length c, .slice B es.length d] w (NewDcnsC w (dlR ps es)) := by
  obtain ⟨i0, hi, hz0, hz1, hz2⟩ := info_parts dcnInfo
  have hn := h.len
  rcases Bool.eq_false_or_eq_true (rbB ps) with hr | hr
  · have HT := Lib.hid (fun W (hb : Below w.heap.size w W) => rbS_q (c := c) (h.below hb) hr)
    rcases Bool.eq_false_or_eq_true (logB es) with h1 | h1
    · have HL := Lib.hid (fun W (hb : Below w.heap.size w W) => logS_q (c := d) (h2.below hb) h1)
      have E := Lib.hid (dlR_ok hr h1)
      have HD := Lib.hid (fun p W (b : Below w.heap.size w W) => dec_s A c ps p W (h.below b) (rb_of hr))
      have HE := Lib.hid (fun W (b : Below w.heap.size w W) => h2.row.below b)
      have hel := h2.len
      clear h h2 hr h1
      go_enter Try.func19, Try.ntmps19
      go_wp2_with (first
        | (go_at_call 71; refine (HT.out _ (Below.refl _ _)).mono ?_; rintro e w1 ⟨rfl, b1⟩)
        | (go_at_call 76; refine (HL.out _ b1).mono ?_; rintro e w2 ⟨rfl, b2⟩; have t2 := belowGo b1 b2))
      clear HT HL b1 b2
      have N0 := DAcc.new w2 (es.map (decE ps))
      have s2 := t2.size
      go_wp2_with fail
      go_loopw [6, 7] (fun v i wr => ∃ (k : Nat) (O : Option Addr) (q : Nat) (hs : List Dch), k ≤ es.length ∧ i = .int .i64 k ∧ v = .slice O k q ∧ Hid (DAcc wr w2.heap.size O k q hs (es.map (decE ps))) ∧ w2.heap.size ≤ wr.heap.size ∧ Below w.heap.size w wr) (fun _ i _ => es.length - (intOf i).toNat)
      case atStart => exact ⟨0, _, 0, [], Nat.zero_le _, rfl, rfl, Lib.hid N0, by simp, belowGo t2 (below_alloc _ _)⟩
      case round =>
        clear N0
        obtain ⟨k, O, q, hs, hk, rfl, rfl, HA, hsz, hb⟩ := hrel
        by_cases hlt : k < es.length
        · obtain ⟨b, off, p, rfl, hl, hp, h4⟩ := (HE.out wr hb).at hlt
          have c0 := h4.c0; have c1 := h4.c1; have c2 := h4.c2; have c3 := h4.c3; have c4 := h4.c4; have c5 := h4.c5; have c6 := h4.c6
          have HX : Hid ((es.map (decE ps))[k]? = some (decE ps p)) := Lib.hid (by rw [List.getElem?_map, hp.out]; rfl)
          have HBX := Lib.hid (Below.refl wr.heap.size wr)
          have HC := Lib.hid (HD.out p wr hb)
          have hx13 : True := trivial
          obtain ⟨x, hx⟩ : ∃ x, x = decE ps p := ⟨_, rfl⟩
          rw [← hx] at HC HX
          clear hx h4 hp
          go_wp2_with (first
            | (go_at_call 73; refine HC.out.mono ?_; rintro e w3 ⟨A1, c1, rfl, o1, b3⟩; have hb3 := belowGo HBX.out b3; have hr3 := own_below HA.out.row hb3; have hs3 : w2.heap.size ≤ w3.heap.size := Nat.le_trans hsz hb3.size; have O1 := Lib.hid (o1.mono HBX.out.size))
            | (at_builtin; refine wpList_push2 _ rfl (.tmp 23) (.tmp 30) 37 rfl w2.heap.size 31 i0 _ 2 32 Try.underlying37 hi hz0 hz1 hz2 rfl (by decide) _ k _ rfl hr3 [.int .i64 x.y, .slice A1 x.cs.length c1] rfl (by simp [Value.oneCell']) rfl (by unfold maxLen; omega) (by omega) hs3 ?_; intro v' w' hown' hg' hk'))
          obtain ⟨O', q', rfl⟩ := own_form hown'
          have HN := Lib.hid (HA.out.next hb3 HX.out O1.out hsz hown' hg' hk')
          have hbw : Below w.heap.size w w' := (belowGo hb hb3).grown hg' (belowGo hb hb3).size (fun j hj => Nat.le_trans s2 (hr3.lt j hj).1)
          go_roundw
          case rel => exact ⟨k + 1, O', q', _, by omega, by go_num, rfl, HN, Nat.le_trans hs3 hg'.size, hbw⟩
          case measure => simp [intOf]; omega
        · obtain rfl : k = es.length := by omega
          have hlm : (es.map (decE ps)).length = es.length := by simp
          clear HE HD
          go_wp2_with fail
          go_ret2
          rw [E.out]
          have HQ := HA.out
          rw [← hlm] at HQ
          exact ⟨O, q, by simp only [hlm] <;> rfl, (HQ.done (Nat.le_refl _)).mono t2.size (Nat.le_refl _), hb⟩
    · have HL := Lib.hid (fun W (hb : Below w.heap.size w W) => logS_q (c := d) (h2.below hb) h1)
      have E := Lib.hid (@dlR_no ps es (.inr h1))
      clear h h2 hr h1
      go_enter Try.func19, Try.ntmps19
      go_wp2_with (first
        | (go_at_call 71; refine (HT.out _ (Below.refl _ _)).mono ?_; rintro e w1 ⟨rfl, b1⟩)
        | (go_at_call 76; refine (HL.out _ b1).mono ?_; rintro e w2 ⟨rfl, b2⟩; have t2 := belowGo b1 b2))
      go_ret2
      rw [E.out]
      exact ⟨none, 0, rfl, DcnO.nil _ _ _, t2⟩
  · have HT := Lib.hid (fun W (hb : Below w.heap.size w W) => rbS_q (c := c) (h.below hb) hr)
    have E := Lib.hid (@dlR_no ps es (.inl hr))
    clear h h2 hr
    go_enter Try.func19, Try.ntmps19
    go_wp2_with (first
      | (go_at_call 71; refine (HT.out _ (Below.refl _ _)).mono ?_; rintro e w1 ⟨rfl, b1⟩))
    go_ret2
    rw [E.out]
    exact ⟨none, 0, rfl, DcnO.nil _ _ _, b1⟩
end Go.Proofs.Ytjcklmhgjdmjoaa
