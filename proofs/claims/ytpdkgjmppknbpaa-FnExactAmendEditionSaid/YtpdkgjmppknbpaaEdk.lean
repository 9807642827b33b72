/- impl.copyOfEditions: the rows of a list of editions, copied. -/
import Derived.Test.YtpdkgjmppknbpaaEdg
import Derived.Test.YtpdkgjmppknbpaaEdi
namespace Go.Proofs.Ytpdkgjmppknbpaa
open Go.ChangeShapes Go.WideShapes Go.ChangeAt Go.RowKit
set_option linter.unusedVariables false

theorem flat_set_s (gs rest : List Edh) (x : Edh) {k : Nat} (hk : gs.length = k) (A : Option Addr) (n c : Nat) :
    ((gs ++ x :: rest).flatMap Edh.cells).set (k * 2 + 1) (.slice A n c) = ((gs ++ [(⟨x.y, A, n, c⟩ : Edh)]) ++ rest).flatMap Edh.cells := by
  subst hk
  have hl := flat_len Edh.cells 2 (fun _ => rfl) gs
  rw [List.flatMap_append, List.set_append_right _ _ (by omega), hl, show gs.length * 2 + 1 - gs.length * 2 = 1 by omega]
  simp [Edh.cells]
theorem clsR_some {w : World} {A : Option Addr} {rs : List Cls} (h : ClsR w A rs) (h0 : 0 < rs.length) : ∃ b off, A = some ⟨b, off, none⟩ := by
  obtain ⟨b, off, r, e, _⟩ := h.at h0; exact ⟨b, off, e⟩
theorem clone_any (A : Option Addr) (c : Nat) (cs : List Cls) (w : World) (h : ClsR w A cs) (h0 : 0 < cs.length) (hn : cs.length ≤ 1000) :
    Calls Try.prog 88 #[.slice A cs.length c] w fun e w' =>
      ∃ A1 c1, e = .returned (.slice A1 cs.length c1) ∧ ClsO w' w.heap.size A1 cs.length c1 cs ∧ Below w.heap.size w w' := by
  obtain ⟨b, off, rfl⟩ := clsR_some h h0
  exact (cloneCl_i b off c cs w h hn h0).mono fun e w' k => by obtain ⟨g, q, k1, k2, k3⟩ := k; exact ⟨_, _, k1, k2, k3⟩
set_option maxRecDepth 100000 in
set_option maxHeartbeats 4000000 in
theorem copyEds_i (b off c : Nat) (hs : List Edh) (es : List Edn) (w : World) (hR : EdhR w (some ⟨b, off, none⟩) hs) (hv : EdnV w hs es) (hn : es.length ≤ 900) (h0 : 0 < es.length) (hcs : ∀ e ∈ es, 0 < e.cs.length ∧ e.cs.length ≤ 900) :
    Calls Try.prog 58 #[.slice (some ⟨b, off, none⟩) es.length c] w fun e w' =>
      ∃ g q, e = .returned (.slice (some ⟨g, 0, none⟩) es.length q) ∧ EdnO w' w.heap.size w'.heap.size (some ⟨g, 0, none⟩) es.length q es ∧ Below w.heap.size w w' := by
  have HR := Lib.hid (fun W (b : Below w.heap.size w W) => hR.below b)
  have HV := Lib.hid hv
  have hl := hv.len
  have HC := Lib.hid (cloneH_i b off c hs w hR (by omega) (by omega))
  have HCS := Lib.hid hcs
  rw [hl] at HC
  clear hR hv hcs
  go_enter Try.func58, Try.ntmps58
  go_wp2_with fail
  refine HC.out.mono ?_
  rintro e w1 ⟨g, q, rfl, o1, b1⟩
  have hg : g < w1.heap.size := (o1.lt g rfl).2
  have hg0 : w.heap.size ≤ g := (o1.lt g rfl).1
  have O1 : w1.ownsRow w.heap.size 40 2 (.slice (some ⟨g, 0, none⟩) es.length q) es.length (([] ++ hs.drop 0).flatMap Edh.cells) := by simpa [EdhO] using o1
  have P1 := Lib.hid (EdnPt.nil w1 w1.heap.size es)
  clear HC o1
  go_wp2_with fail
  go_loopw [10] (fun i wr => ∃ (k : Nat) (gs : List Edh), k ≤ es.length ∧ i = .int .i64 k ∧ Hid (EdnPt wr w1.heap.size gs es k) ∧ wr.ownsRow w.heap.size 40 2 (.slice (some ⟨g, 0, none⟩) es.length q) es.length ((gs ++ hs.drop k).flatMap Edh.cells) ∧ Below w.heap.size w wr ∧ w1.heap.size ≤ wr.heap.size) (fun i _ => es.length - (intOf i).toNat)
  case atStart => exact ⟨0, [], Nat.zero_le _, rfl, P1, O1, b1, Nat.le_refl _⟩
  case round =>
    clear O1 P1 b1
    obtain ⟨k, gs, hk, rfl, hp, hown, hb, hsz⟩ := hrel
    by_cases hlt : k < es.length
    · obtain ⟨b', off', x, e2, hl', hx, c0, c1⟩ := (HR.out wr hb).at (show k < hs.length by omega)
      obtain ⟨rfl, rfl⟩ : b = b' ∧ off = off' := by injection e2 with e2; injection e2 with e3 e4; exact ⟨e3, e4⟩
      obtain ⟨e, he⟩ : ∃ e, es[k]? = some e := ⟨_, List.getElem?_eq_getElem hlt⟩
      obtain ⟨v1, v2, v3⟩ := HV.out.one k x e hx.out he
      obtain ⟨hc0, hc9⟩ := HCS.out e (List.mem_of_getElem? he)
      have hdr : hs.drop k = x :: hs.drop (k + 1) := drop_of hx.out
      obtain ⟨xy, xA, xn, xc⟩ := x
      simp only at v1 v2 v3 c0 c1
      subst v1 v2
      have k0 := KeepN.new wr e.y xA e.cs.length xc
      obtain ⟨wA, hwA⟩ : ∃ x, wr.alloc (.cells #[.int .i64 e.y, .slice xA e.cs.length xc] 40) = x := ⟨_, rfl⟩
      rw [hwA] at k0
      have hbA : Below w.heap.size w wA := belowGo hb k0.bel
      have HCl := Lib.hid (clone_any xA xc e.cs wA (v3.below hbA) hc0 (by omega))
      have q1 := k0.c1
      have OA := Lib.hid (own_below hown k0.bel)
      have KB := Lib.hid k0.bel
      have HE := Lib.hid he
      have HD := Lib.hid hdr
      clear v3 hx he hdr hown k0
      go_wp2_with fail
      try rw [hwA]
      go_wp2_with fail
      refine HCl.out.mono ?_
      rintro e' w2 ⟨A1, n1, rfl, o2, b2⟩
      have own2 := own_below OA.out b2
      have hb2 := belowGo hbA b2
      have hB12 : Below wr.heap.size wr w2 := KB.out.trans (b2.mono KB.out.size)
      have HP := Lib.hid (hp.out.snoc hB12 HE.out (o2.mono KB.out.size) hsz)
      obtain ⟨o1', k1'⟩ := own_at own2 (k * 2 + 1) (by have := own2.1; omega)
      have f1 := own2.frozenAt (k * 2 + 1)
      have HS := Lib.hid (own2.stored (k * 2 + 1) (.slice A1 e.cs.length n1))
      rw [HD.out, flat_set_s gs (hs.drop (k + 1)) _ hp.out.len A1 e.cs.length n1] at HS
      have HB2 := Lib.hid hb2
      have hsz2 : Hid (w1.heap.size ≤ w2.heap.size) := Lib.hid (Nat.le_trans hsz hB12.size)
      clear own2 o2 b2 hB12 hp OA HCl hb2 q1
      go_wp2_with fail
      go_roundw
      case rel =>
        refine ⟨k + 1, _, by omega, by go_num, Lib.hid (HP.out.grown HS.out.2 fun z hz ez => ?_), HS.out.1, HB2.out.grown HS.out.2 HB2.out.size (fun j hj => by injection hj; omega), by simpa using hsz2.out⟩
        have := (HP.out.ob_lt (by omega) hz ez).1
        omega
      case measure => simp [intOf]; omega
    · obtain rfl : k = es.length := by omega
      have hd : hs.drop es.length = [] := List.drop_eq_nil_of_le (by omega)
      rw [hd, List.append_nil] at hown
      have HO := Lib.hid hown
      clear hown hd
      go_wp2_with fail
      go_ret
      exact ⟨g, q, rfl, hp.out.done HO.out (by omega) (Nat.le_refl _) (fun z hz j hj e => by
        have h1 := (hp.out.ob_lt (Nat.le_refl _) hz hj).1
        simp [Value.ownBlock] at e
        omega), hb⟩
end Go.Proofs.Ytpdkgjmppknbpaa
