import Derived.Test.YtjcklmhgjdmjoaaGreatMEdn
import Derived.Test.YtjcklmhgjdmjoaaGreatMCal
namespace Go.Proofs.YtjcklmhgjdmjoaaGreat
open Go.ChangeShapes Go.WideShapes Go.ChangeAt Go.RowKit
set_option linter.unusedVariables false
def EdhR (w : World) (A : Option Addr) (rs : List Edh) : Prop := Rw w A (rs.flatMap Edh.cells)
theorem EdhR.below {w w' : World} {A : Option Addr} {rs : List Edh} (h : EdhR w A rs) (hb : Below w.heap.size w w') : EdhR w' A rs := Rw.below h hb
theorem EdhR.at {w : World} {A : Option Addr} {rs : List Edh} (h : EdhR w A rs) {k : Nat} (hk : k < rs.length) :
  ∃ b off r, A = some ⟨b, off, none⟩ /\ b < w.heap.size /\ Hid (rs[k]? = some r) /\ w.cell? ⟨b, off + k * 2, none⟩ = some (.int .i64 r.y) /\ w.cell? ⟨b, off + k * 2 + 1, none⟩ = some (.slice r.A r.n r.c) := by
 have hl := flat_len Edh.cells 2 (fun _ => rfl) rs
 obtain ⟨b, off, e, hb, hc⟩ := h (by rw [hl]; omega)
 have hr : rs[k]? = some rs[k] := List.getElem?_eq_getElem hk
 have g := fun j hj => hc (k * 2 + j) _ ((flat_at Edh.cells 2 (fun _ => rfl) rs k j _ hr hj).trans (List.getElem?_eq_getElem (by exact hj)))
 refine ⟨b, off, rs[k], e, hb, Lib.hid hr, ?_, ?_⟩
 ·
  simpa [Edh.cells] using g 0 (by omega)
 ·
  simpa [Edh.cells, Nat.add_assoc] using g 1 (by omega)
structure EdnV (w : World) (hs : List Edh) (es : List Edn) : Prop where
 len : hs.length = es.length
 one : ∀ (k : Nat) h e, hs[k]? = some h -> es[k]? = some e -> EdOne w h e
theorem EdnV.below {w w' : World} {hs : List Edh} {es : List Edn} (h : EdnV w hs es) (hb : Below w.heap.size w w') : EdnV w' hs es :=
 ⟨h.len, fun k x e h1 h2 => ⟨(h.one k x e h1 h2).1, (h.one k x e h1 h2).2.1, (h.one k x e h1 h2).2.2.below hb⟩⟩
theorem EdnV.app {w : World} {hs hs' : List Edh} {es es' : List Edn} (h : EdnV w hs es) (h' : EdnV w hs' es') : EdnV w (hs ++ hs') (es ++ es') := by
 refine ⟨by rw [List.length_append, List.length_append, h.len, h'.len], fun k x e h1 h2 => ?_⟩
 have hl := h.len
 by_cases hk : k < hs.length
 ·
  rw [List.getElem?_append_left hk] at h1
  rw [List.getElem?_append_left (by omega)] at h2
  exact h.one k x e h1 h2
 ·
  rw [List.getElem?_append_right (by omega)] at h1
  rw [List.getElem?_append_right (by omega), <- hl] at h2
  exact h'.one _ x e h1 h2
theorem EdnV.single {w : World} {h : Edh} {e : Edn} (H : EdOne w h e) : EdnV w [h] [e] := by
 refine ⟨rfl, fun k x e' h1 h2 => ?_⟩
 match k, h1, h2 with
 | 0, h1, h2 => cases h1; cases h2; exact H
 | k + 1, h1, h2 => simp at h1
theorem EdnV.take {w : World} {hs : List Edh} {es : List Edn} (h : EdnV w hs es) (k : Nat) : EdnV w (hs.take k) (es.take k) := by
 refine ⟨by rw [List.length_take, List.length_take, h.len], fun j x e h1 h2 => ?_⟩
 rw [List.getElem?_take] at h1 h2
 split at h1
 ·
  rw [if_pos (by assumption)] at h2; exact h.one j x e h1 h2
 ·
  cases h1
theorem EdnV.drop {w : World} {hs : List Edh} {es : List Edn} (h : EdnV w hs es) (k : Nat) : EdnV w (hs.drop k) (es.drop k) := by
 refine ⟨by rw [List.length_drop, List.length_drop, h.len], fun j x e h1 h2 => ?_⟩
 rw [List.getElem?_drop] at h1 h2
 exact h.one _ x e h1 h2
theorem EdnV.set {w : World} {hs : List Edh} {es : List Edn} (h : EdnV w hs es) {k : Nat} {x : Edh} {e : Edn} (H : EdOne w x e) : EdnV w (hs.set k x) (es.set k e) := by
 refine ⟨by rw [List.length_set, List.length_set, h.len], fun j y d h1 h2 => ?_⟩
 rw [List.getElem?_set] at h1 h2
 by_cases hkj : k = j
 ·
  subst hkj
  rw [if_pos rfl] at h1 h2
  split at h1
  ·
   rw [if_pos (by rw [<- h.len]; assumption)] at h2
   cases h1; cases h2; exact H
  ·
   cases h1
 ·
  rw [if_neg hkj] at h1 h2
  exact h.one j y d h1 h2
theorem ednR_hs {w : World} {A : Option Addr} {es : List Edn} (h : EdnR w A es) : ∃ hs, EdhR w A hs /\ EdnV w hs es := by
 obtain ⟨hs, a, b, c⟩ := h
 exact ⟨hs, b, a, c⟩
theorem ednR_of_hs {w : World} {A : Option Addr} {hs : List Edh} {es : List Edn} (h : EdhR w A hs) (v : EdnV w hs es) : EdnR w A es := ⟨hs, v.len, h, v.one⟩
def EdhO (w : World) (base : Nat) (A : Option Addr) (n c : Nat) (rs : List Edh) : Prop := w.ownsRow base 42 2 (.slice A n c) n (rs.flatMap Edh.cells)
section
variable {w w' : World} {base : Nat} {A : Option Addr} {n c : Nat} {rs : List Edh}
theorem EdhO.len (h : EdhO w base A n c rs) : rs.length = n := by
 have := h.1; rw [flat_len Edh.cells 2 (fun _ => rfl)] at this; omega
theorem EdhO.row (h : EdhO w base A n c rs) : EdhR w A rs := Rw.ownS h
theorem EdhO.bd (h : EdhO w base A n c rs) : Bd A w.heap.size := fun a e => (h.lt a.block (by rw [e]; rfl)).2
theorem EdhO.lo (h : EdhO w base A n c rs) : ∀ k, (Value.slice A n c).ownBlock = some k -> base <= k := fun k e => (h.lt k e).1
theorem EdhO.below (h : EdhO w base A n c rs) (hb : Below w.heap.size w w') : EdhO w' base A n c rs := own_below h hb
theorem EdhO.mono {base' : Nat} (h : EdhO w base A n c rs) (hb : base' <= base) : EdhO w base' A n c rs := by
 refine ⟨h.1, h.2.imp id ?_⟩
 rintro ⟨g, cap, cur, h1, h2, h3⟩
 exact ⟨g, cap, cur, h1, by omega, h3⟩
theorem EdhO.kept {B : Option Addr} {m d : Nat} (h : EdhO w base A n c rs) (hg : w.grownBy w' (Value.slice B m d).ownBlock) (hB : Bd B base) : EdhO w' base A n c rs :=
 World.ownsRow.kept h hg (by
  cases A with
  | none => exact .inl rfl
  | some a =>
   right
   cases B with
   | none => simp [Value.ownBlock]
   | some b =>
    intro e
    have h1 := h.lo a.block rfl
    have h2 := hB b rfl
    simp [Value.ownBlock] at e
    omega)
theorem EdhO.far {B : Nat} (h : EdhO w base A n c rs) (hg : w.grownBy w' (Value.slice A n c).ownBlock) (hB : B <= base) (hs : B <= w.heap.size) : Below B w w' :=
 (Below.refl _ _).grown hg hs (fun k e => Nat.le_trans hB (h.lo k e))
end
theorem EdhR.drop {w : World} {g off : Nat} {rs : List Edh} (h : EdhR w (some ⟨g, off, none⟩) rs) (k : Nat) : EdhR w (some ⟨g, off + k * 2, none⟩) (rs.drop k) := fun hp => by
 have hl := flat_len Edh.cells 2 (fun _ => rfl) rs
 have hl2 := flat_len Edh.cells 2 (fun _ => rfl) (rs.drop k)
 rw [List.length_drop] at hl2
 obtain ⟨b, o, e, hb, hcell⟩ := h (by omega)
 simp only [Option.some.injEq, Addr.mk.injEq, and_true] at e
 obtain ⟨rfl, rfl⟩ := e
 refine ⟨g, off + k * 2, rfl, hb, fun j v hj => ?_⟩
 have hsp : rs.flatMap Edh.cells = (rs.take k).flatMap Edh.cells ++ (rs.drop k).flatMap Edh.cells := by rw [<- List.flatMap_append, List.take_append_drop]
 have hlt := flat_len Edh.cells 2 (fun _ => rfl) (rs.take k)
 rw [List.length_take, Nat.min_eq_left (by omega)] at hlt
 rw [Nat.add_assoc]
 refine hcell (k * 2 + j) v ?_
 rw [hsp, List.getElem?_append_right (by omega), hlt, Nat.add_sub_cancel_left]
 exact hj
theorem EdhR.take {w : World} {A : Option Addr} {rs : List Edh} (h : EdhR w A rs) (k : Nat) : EdhR w A (rs.take k) := fun hp => by
 have hsp : rs.flatMap Edh.cells = (rs.take k).flatMap Edh.cells ++ (rs.drop k).flatMap Edh.cells := by rw [<- List.flatMap_append, List.take_append_drop]
 obtain ⟨b, o, e, hb, hcell⟩ := h (by rw [hsp, List.length_append]; omega)
 refine ⟨b, o, e, hb, fun j v hj => hcell j v ?_⟩
 rw [hsp, List.getElem?_append_left (List.getElem?_eq_some_iff.1 hj).1]; exact hj
theorem EdhR.none {w : World} {A : Option Addr} : EdhR w A [] := fun hp => absurd hp (by simp)
theorem made0H (w : World) (base : Nat) (e : TypeId) (size : Nat) (hb : base <= w.heap.size) : (w.alloc (Obj.cells #[] e)).ownsRow base e size (.slice (some ⟨w.heap.size, 0, none⟩) 0 0) 0 [] :=
 World.ownsRow_made w #[] 0 hb (by decide) (by simp)
theorem cells_oneH (qs : List Edh) : ∀ u ∈ qs.flatMap Edh.cells, u.oneCell' = true := fun u hu => by
 obtain ⟨y, _, hy⟩ := List.mem_flatMap.1 hu
 unfold Edh.cells at hy
 simp only [List.mem_cons, List.not_mem_nil, or_false] at hy
 rcases hy with rfl | rfl <;> simp [Value.oneCell']
theorem edhR_cells {w : World} {b off : Nat} {ps : List Edh} (h : EdhR w (some ⟨b, off, none⟩) ps) : ∀ j u, (ps.flatMap Edh.cells)[j]? = some u -> w.cell? ((⟨b, off, none⟩ : Addr).add j) = some u := fun j u hu => by
 have hp : 0 < (ps.flatMap Edh.cells).length := by have := (List.getElem?_eq_some_iff.1 hu).1; omega
 obtain ⟨b', off', e, _, hc⟩ := h hp
 simp only [Option.some.injEq, Addr.mk.injEq, and_true] at e
 obtain ⟨rfl, rfl⟩ := e
 rw [show ((⟨b, off, none⟩ : Addr).add j) = ⟨b, off + j, none⟩ from by unfold Addr.add; split <;> simp_all]
 exact hc j u hu
set_option maxRecDepth 100000 in
set_option maxHeartbeats 2000000 in
theorem cloneH_i (b off c : Nat) (ps : List Edh) (w : World) (hR : EdhR w (some ⟨b, off, none⟩) ps) (hn : ps.length <= 1000) (h0 : 0 < ps.length) :
  Calls Tryz.prog 70 #[.slice (some ⟨b, off, none⟩) ps.length c] w fun e w' =>
   ∃ g q, e = .returned (.slice (some ⟨g, 0, none⟩) ps.length q) /\ EdhO w' w.heap.size (some ⟨g, 0, none⟩) ps.length q ps /\ Below w.heap.size w w' := by
 obtain ⟨i0, hi, hz0, hz1, hz2⟩ := info_parts ednInfo
 have HO := Lib.hid (made0H w w.heap.size 42 2 (Nat.le_refl _))
 have HSZ : Hid (w.heap.size <= (w.alloc (Obj.cells #[] 42)).heap.size) := Lib.hid (by simp)
 have HB := Lib.hid (below_alloc w (Obj.cells #[] 42))
 have HC := Lib.hid (edhR_cells (hR.below HB.out))
 clear hR
 have q22 : ∀ (w : World) (a : Option Addr) (n c n' c' : Nat), (binOp .eql 36 (.slice a n c) (.slice none n' c')).run Tryz.prog w = .ok (.bool a.isNone) w := fun w a n c n' c' => Lib.run_eql_slice_nil w _ _ a n c n' c' Tryz.underlying36
 go_enter Tryz.func70, Tryz.ntmps70
 go_wp2_with (at_builtin; refine wpList_append_own _ rfl (.tmp 5) (.tmp 6) 36 rfl w.heap.size 42 i0 _ 2 32 Tryz.underlying36 hi hz0 hz1 hz2 rfl (by decide) _ 0 _ rfl HO.out ⟨b, off, none⟩ ps.length c (ps.flatMap Edh.cells) rfl (flat_len Edh.cells 2 (fun _ => rfl) ps) HC.out (cells_oneH ps) (by unfold maxLen; omega) (by omega) HSZ.out ?_; intro v' w' h2 h3 h4)
 go_ret
 rw [Nat.zero_add] at h2
 obtain ⟨O, q, rfl⟩ := own_form h2
 have h5 := h2
 rcases h2.2 with ⟨e, e2⟩ | ⟨g, cap, cur, e, _⟩
 ·
  omega
 ·
  injection e with e1 e2 e3
  subst e1
  exact ⟨g, q, rfl, by simpa [EdhO] using h5, HB.out.trans ((Below.refl _ _).grown h3 HSZ.out (fun k hk => (HO.out.lt k hk).1))⟩
theorem made0Cl (w : World) (base : Nat) (e : TypeId) (size : Nat) (hb : base <= w.heap.size) : (w.alloc (Obj.cells #[] e)).ownsRow base e size (.slice (some ⟨w.heap.size, 0, none⟩) 0 0) 0 [] :=
 World.ownsRow_made w #[] 0 hb (by decide) (by simp)
theorem cells_oneCl (qs : List Cls) : ∀ u ∈ qs.flatMap Cls.cells, u.oneCell' = true := fun u hu => by
 obtain ⟨y, _, hy⟩ := List.mem_flatMap.1 hu
 unfold Cls.cells at hy
 simp only [List.mem_cons, List.not_mem_nil, or_false] at hy
 rcases hy with rfl | rfl | rfl | rfl | rfl | rfl | rfl <;> simp [Value.oneCell']
theorem clsrR_cells {w : World} {b off : Nat} {ps : List Cls} (h : ClsR w (some ⟨b, off, none⟩) ps) : ∀ j u, (ps.flatMap Cls.cells)[j]? = some u -> w.cell? ((⟨b, off, none⟩ : Addr).add j) = some u := fun j u hu => by
 have hp : 0 < (ps.flatMap Cls.cells).length := by have := (List.getElem?_eq_some_iff.1 hu).1; omega
 obtain ⟨b', off', e, _, hc⟩ := h hp
 simp only [Option.some.injEq, Addr.mk.injEq, and_true] at e
 obtain ⟨rfl, rfl⟩ := e
 rw [show ((⟨b, off, none⟩ : Addr).add j) = ⟨b, off + j, none⟩ from by unfold Addr.add; split <;> simp_all]
 exact hc j u hu
set_option maxRecDepth 100000 in
set_option maxHeartbeats 2000000 in
theorem cloneCl_i (b off c : Nat) (ps : List Cls) (w : World) (hR : ClsR w (some ⟨b, off, none⟩) ps) (hn : ps.length <= 1000) (h0 : 0 < ps.length) :
  Calls Tryz.prog 71 #[.slice (some ⟨b, off, none⟩) ps.length c] w fun e w' =>
   ∃ g q, e = .returned (.slice (some ⟨g, 0, none⟩) ps.length q) /\ ClsO w' w.heap.size (some ⟨g, 0, none⟩) ps.length q ps /\ Below w.heap.size w w' := by
 obtain ⟨i0, hi, hz0, hz1, hz2⟩ := info_parts clsInfo
 have HO := Lib.hid (made0Cl w w.heap.size 47 7 (Nat.le_refl _))
 have HSZ : Hid (w.heap.size <= (w.alloc (Obj.cells #[] 47)).heap.size) := Lib.hid (by simp)
 have HB := Lib.hid (below_alloc w (Obj.cells #[] 47))
 have HC := Lib.hid (clsrR_cells (hR.below HB.out))
 clear hR
 have q22 : ∀ (w : World) (a : Option Addr) (n c n' c' : Nat), (binOp .eql 24 (.slice a n c) (.slice none n' c')).run Tryz.prog w = .ok (.bool a.isNone) w := fun w a n c n' c' => Lib.run_eql_slice_nil w _ _ a n c n' c' Tryz.underlying24
 go_enter Tryz.func71, Tryz.ntmps71
 go_wp2_with (at_builtin; refine wpList_append_own _ rfl (.tmp 5) (.tmp 6) 24 rfl w.heap.size 47 i0 _ 7 72 Tryz.underlying24 hi hz0 hz1 hz2 rfl (by decide) _ 0 _ rfl HO.out ⟨b, off, none⟩ ps.length c (ps.flatMap Cls.cells) rfl (flat_len Cls.cells 7 (fun _ => rfl) ps) HC.out (cells_oneCl ps) (by unfold maxLen; omega) (by omega) HSZ.out ?_; intro v' w' h2 h3 h4)
 go_ret
 rw [Nat.zero_add] at h2
 obtain ⟨O, q, rfl⟩ := own_form h2
 have h5 := h2
 rcases h2.2 with ⟨e, e2⟩ | ⟨g, cap, cur, e, _⟩
 ·
  omega
 ·
  injection e with e1 e2 e3
  subst e1
  exact ⟨g, q, rfl, by simpa [ClsO] using h5, HB.out.trans ((Below.refl _ _).grown h3 HSZ.out (fun k hk => (HO.out.lt k hk).1))⟩
end Go.Proofs.YtjcklmhgjdmjoaaGreat
