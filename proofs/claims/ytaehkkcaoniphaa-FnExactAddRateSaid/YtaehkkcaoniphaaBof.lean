/- impl.bookOf. -/
import Derived.Test.YtaehkkcaoniphaaBook
namespace Go.Proofs.Ytaehkkcaoniphaa
open Go.ChangeShapes Go.WideShapes Go.ChangeAt Go.RowKit
set_option linter.unusedVariables false

theorem keyI_y {S : World → Prop} {s : List UInt8} {d : Int} (hs : codeB s = true) (hS : ∀ (y : Sub S) (w' : World), Below y.w.heap.size y.w w' → S w') (y : Sub S) :
    Calls Try.prog 86 #[.string ⟨s.toArray⟩, .int .i64 d] y.w fun e w' => e = .returned (.agg #[.int .i64 (keyN s), .int .i64 d]) ∧ ∃ z : Sub S, w' = z.w :=
  (keyOf_i s d y.w hs).mono fun e w' k => ⟨k.1, ⟨w', hS y w' k.2⟩, rfl⟩
theorem below_own {w0 w w' : World} {b : Nat} (h : Below w0.heap.size w0 w) (hg : w.grownBy w' (some b)) (hb : w0.heap.size ≤ b) : Below w0.heap.size w0 w' :=
  ⟨hg.os.trans h.os, hg.tape.trans h.tape, hg.output.trans h.output, Nat.le_trans h.size hg.size, fun i hi => (hg.block i (Nat.lt_of_lt_of_le hi h.size) (by simp; omega)).trans (h.block i hi)⟩
theorem owns_below {w w' : World} {k : TypeId} {b n : Nat} {D : DataW Value} (h : w.ownsMap Try.prog k rV b n D) (hb : Below w.heap.size w w') : w'.ownsMap Try.prog k rV b n D := h.kept (grown_of hb) (by simp)

set_option maxRecDepth 100000 in
set_option maxHeartbeats 4000000 in
theorem bookOf_i (A : Option Addr) (c : Nat) (rs : List Rt) (w : World) (h : Tbl w A rs) (ht : tabB rs = true) :
    Calls Try.prog 79 #[.slice A rs.length c] w fun e w' => ∃ D, e = .returned (.map (some w.heap.size)) ∧ w'.ownsMap Try.prog 116 rV w.heap.size (rs.length + 1) D ∧ Bkd D (bookF rs) ∧ Below w.heap.size w w' := by
  have h0 : w.heap.size < (w.alloc (.map #[] 0)).heap.size := by simp
  have hm := World.ownsMap_made (H := Value) w Try.prog 116 rV
  have hB0 := below_alloc w (.map #[] 0)
  have hn := h.len
  have hmk : (Instr.makeMap 106 none).run Try.prog w = .ok (.map (some w.heap.size)) (w.alloc (.map #[] 0)) := rfl
  go_enter Try.func79, Try.ntmps79
  go_wp2_with (first
    | (go_at_call 86; refine (keyOf_i xdr 0 _ xdr_code).mono ?_; rintro e w1 ⟨rfl, b1⟩; have hown1 := owns_below hm b1; have hb1 := belowGo hB0 b1)
    | (refine wpList_insert_own _ rfl (.tmp 6) (.tmp 7) (.tmp 8) 106 rfl 116 30 keyLaw Try.underlying106 rV w.heap.size 0 (.map []) rfl hown1 (by decide) (kv (keyN xdr, 0)) one.val (kl (keyN xdr, 0)) rfl rfl (key_of (wf_key xdr_code (by decide) (by decide))) (.held one.val) [] rfl ?_; intro w2 hown2 hg2))
  have bd1 : Bkd ((DataW.map [] : DataW Value).put (kl (keyN xdr, 0)) (.held one.val)) (bookF (rs.take 0)) := bd_0.put (wf_key xdr_code (by decide) (by decide)) one
  have hB2 : Below w.heap.size w w2 := below_own hb1 hg2 (Nat.le_refl _)
  clear hmk hm hB0 h0 hown1 hb1 b1
  go_loopw [5, 12] (fun _ i wr => ∃ (k : Nat) (D : DataW Value), k ≤ rs.length ∧ i = .int .i64 k ∧ wr.ownsMap Try.prog 116 rV w.heap.size (k + 1) D ∧ Hid (Bkd D (bookF (rs.take k))) ∧ Below w.heap.size w wr) (fun _ i _ => rs.length - (intOf i).toNat)
  case atStart => exact ⟨0, _, Nat.zero_le _, rfl, hown2, Lib.hid bd1, hB2⟩
  case round =>
    obtain ⟨k, D, hk, rfl, hown, hbd, hb⟩ := hrel
    by_cases hlt : k < rs.length
    · obtain ⟨b, off, r, rfl, hl, hr, h4⟩ := (h.row.below hb).four hlt
      have hok := Rt.ok_iff.1 (tab_ok ht hr.out)
      have hwf : Wf (keyN r.c, r.day) := wf_key hok.1 (by omega) (by omega)
      have hcd := hok.1
      obtain ⟨S, hS⟩ : ∃ S : World → Prop, ∀ W, S W ↔ KeepB wr #[.string ⟨r.c.toArray⟩, .int .i64 r.day, .int .i64 r.num, .int .i64 r.den] 30 W := ⟨_, fun _ => Iff.rfl⟩
      have k0 : S (wr.alloc (.cells #[.string ⟨r.c.toArray⟩, .int .i64 r.day, .int .i64 r.num, .int .i64 r.den] 30)).drew := (hS _).2 (KeepB.new wr _ _).drew
      have q0 : ∀ y : Sub S, y.w.cell? ⟨wr.heap.size, 0, none⟩ = some (.string ⟨r.c.toArray⟩) := fun y => ((hS _).1 y.h).all.1
      have q1 : ∀ y : Sub S, y.w.cell? ⟨wr.heap.size, 1, none⟩ = some (.int .i64 r.day) := fun y => ((hS _).1 y.h).all.2.1
      have q2 : ∀ y : Sub S, y.w.cell? ⟨wr.heap.size, 2, none⟩ = some (.int .i64 r.num) := fun y => ((hS _).1 y.h).all.2.2.1
      have q3 : ∀ y : Sub S, y.w.cell? ⟨wr.heap.size, 3, none⟩ = some (.int .i64 r.den) := fun y => ((hS _).1 y.h).all.2.2.2.1
      have HB := Lib.hid (fun y : Sub S => (belowGo hb ((hS _).1 y.h).bel : Below w.heap.size w y.w))
      have HO := Lib.hid (fun y : Sub S => owns_below hown ((hS _).1 y.h).bel)
      have HS := Lib.hid (fun (y : Sub S) (w' : World) (hb' : Below y.w.heap.size y.w w') => (hS w').2 (((hS _).1 y.h).step hb'))
      have c0 := h4.c0; have c1 := h4.c1; have c2 := h4.c2; have c3 := h4.c3
      have hbd2 : Hid (Bkd (D.put (kl (keyN r.c, r.day)) (.held r.val)) (bookF (rs.take (k + 1)))) := Lib.hid (by rw [snoc_of hr.out, bookF_snoc]; exact hbd.out.put hwf r)
      have hmx : k + 1 < maxLen := by unfold maxLen; omega
      clear h4 hS hr hok hbd hown
      go_wp2_with fail
      refine region_tail 7 S (by kernel_rfl) (by kernel_rfl) k0 ?_
      simp only [List.take_succ_cons, List.take_zero, List.drop_succ_cons, List.drop_zero]
      repeat (go_big_quiet_step ((first | rfl | (go_at_call 86; exact keyI_y hcd HS.out _))))
      refine wpQuiet_nil ?_
      intro y
      have hown3 := HO.out y
      have hby := HB.out y
      refine wpList_mapUpdate_own _ rfl (.tmp 16) (.tmp 21) (.tmp 22) 106 rfl 116 30 keyLaw Try.underlying106 rV w.heap.size (k + 1) D rfl hown3 hmx (kv (keyN r.c, r.day)) r.val (kl (keyN r.c, r.day)) rfl rfl (key_of hwf) (.held r.val) [] rfl ?_
      intro w3 hown4 hg3
      have hb3 := below_own hby hg3 (Nat.le_refl _)
      go_wp2_with fail
      go_roundw
      case rel => exact ⟨k + 1, _, by omega, by go_num, hown4, hbd2, hb3⟩
      case measure => simp [intOf]; omega
    · have E : Hid (Bkd D (bookF rs)) := Lib.hid (by have := hbd.out; rwa [take_all hk hlt] at this)
      obtain rfl : k = rs.length := by omega
      clear hbd h
      go_wp2_with fail
      go_ret
      exact ⟨D, rfl, hown, E.out, hb⟩
end Go.Proofs.Ytaehkkcaoniphaa
