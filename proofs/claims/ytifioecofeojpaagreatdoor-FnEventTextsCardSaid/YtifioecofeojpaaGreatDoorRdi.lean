/- impl.ReadDate. -/
import Derived.Test.YtifioecofeojpaaGreatDoorDparse
namespace Go.Proofs.YtifioecofeojpaaGreatDoor
open Go.ChangeShapes Go.WideShapes Go.ChangeAt Go.RowKit
set_option linter.unusedVariables false

theorem rd_dt {s : List UInt8} {x y z : Int} (h10 : s.length = 10) (h : (dtR x y z).1 = s) : rdR s = (x, y, z, 0) := by
  rcases Bool.eq_false_or_eq_true (okD x y z) with g | g
  · obtain ⟨Y, M, D, rfl, rfl, rfl, _⟩ := nats_of g
    rw [dtR_ok g] at h
    exact rd_ok g h
  · rw [dtR_no g] at h; subst h; simp at h10
theorem rd_nt {s : List UInt8} {x y z : Int} (h1 : ∀ u, Lib.parseIntB 64 (s.take 4) = .ok u → x = u) (h2 : ∀ u, Lib.parseIntB 64 ((s.drop 5).take 2) = .ok u → y = u) (h3 : ∀ u, Lib.parseIntB 64 (s.drop 8) = .ok u → z = u)
    (h : (dtR x y z).1 ≠ s) : rdR s = (0, 0, 0, 6) := by
  refine rd_no fun Y M D g e => h ?_
  obtain ⟨⟨a, b⟩, c, d⟩ := ok_nats g
  obtain ⟨p1, p2, p3⟩ := dtext_parts M D a b
  rw [e] at p1 p2 p3
  rw [h1 Y (by rw [p1]; exact parse_dec (by omega)), h2 M (by rw [p2]; exact parse_two c), h3 D (by rw [p3]; exact parse_two d), dtR_ok g]
  exact e
theorem rd_len {s : List UInt8} (h : s.length ≠ 10) : rdR s = (0, 0, 0, 6) := by
  refine rd_no fun Y M D g e => h ?_
  obtain ⟨⟨a, b⟩, c, d⟩ := ok_nats g
  rw [← e]; exact dtext_len M D a b
def GiveA (w : World) (r : Int × Int × Int × Int) (e : Ending) (w' : World) : Prop :=
  e = .returned (.tuple #[.agg #[.int .i64 r.1, .int .i64 r.2.1, .int .i64 r.2.2.1], .int .i64 r.2.2.2]) ∧ Below w.heap.size w w'

set_option maxHeartbeats 2000000 in
theorem rdate_i (s : List UInt8) (hl : s.length ≤ 1048576) (w : World) (h : Lib3 w) : Calls Tryz.prog 57 #[.string ⟨s.toArray⟩] w (GiveA w (rdR s)) := by
  have hs : (⟨s.toArray⟩ : ByteArray).size = s.length := rfl
  have o1 := heap_alloc_new w (.cells #[.int .i64 0, .int .i64 0, .int .i64 0] 60)
  have HB := below_alloc w (.cells #[.int .i64 0, .int .i64 0, .int .i64 0] 60)
  by_cases h10 : s.length = 10
  · have L1 := Lib.hid (h.below HB)
    have e10 : ((s.length : Int) != 10) = false := by simp [h10]
    have P1 := Lib.hid (fun w h => parse_any (s.take 4) (by rw [List.length_take]; omega) w h)
    have P2 := Lib.hid (fun w h => parse_any ((s.drop 5).take 2) (by rw [List.length_take]; omega) w h)
    have P3 := Lib.hid (fun w h => parse_any (s.drop 8) (by rw [List.length_drop]; omega) w h)
    have x1 : (⟨s.toArray⟩ : ByteArray).extract 0 4 = ⟨(s.take 4).toArray⟩ := by rw [str_ext]; simp
    have x2 : (⟨s.toArray⟩ : ByteArray).extract 5 7 = ⟨((s.drop 5).take 2).toArray⟩ := by rw [str_ext]
    have x3 : (⟨s.toArray⟩ : ByteArray).extract 8 s.length = ⟨(s.drop 8).toArray⟩ := by rw [str_ext, List.take_of_length_le (by simp)]
    have x4 : (⟨s.toArray⟩ : ByteArray).extract 8 10 = ⟨(s.drop 8).toArray⟩ := by rw [str_ext, List.take_of_length_le (by rw [List.length_drop]; omega)]
    have HQ := Lib.hid h10
    clear h
    go_enter Tryz.func57, Tryz.ntmps57
    go_wp2_with fail
    refine (P1.out _ L1.out).mono ?_
    rintro e w1 ⟨x, v1, rfl, hx, b1⟩
    have L2 := Lib.hid (L1.out.below b1)
    go_wp2_with fail
    refine (P2.out _ L2.out).mono ?_
    rintro e w2 ⟨y, v2, rfl, hy, b2⟩
    have L3 := Lib.hid (L2.out.below b2)
    go_wp2_with fail
    refine (P3.out _ L3.out).mono ?_
    rintro e w3 ⟨z, v3, rfl, hz, b3⟩
    have t3 := belowGo (belowGo b1 b2) b3
    have o3 := (keep6 t3 o1).1
    have a3 := below_alloc w3 (.cells #[.int .i64 x, .int .i64 y, .int .i64 z] 60)
    have L4 := Lib.hid (((L3.out.below b3).below a3).tab)
    have o4 := (keep6 a3 o3).1
    have d4 := heap_alloc_new w3 (.cells #[.int .i64 x, .int .i64 y, .int .i64 z] 60)
    have HT := Lib.hid (fun w h => datetext_i x y z w h)
    have HX := Lib.hid (fun h => rd_dt (x := x) (y := y) (z := z) HQ.out h)
    have HN := Lib.hid (fun h => rd_nt hx hy hz h)
    generalize dtR x y z = r at *
    obtain ⟨tx, tc⟩ := r
    clear P1 P2 P3 L1 L2 L3 hx hy hz b1 b2 b3 o1
    go_wp2_with fail
    refine (HT.out _ L4.out).mono ?_
    rintro e w4 ⟨rfl, b4⟩
    obtain ⟨o5, r0, r1, r2, s0, s1, s2⟩ := keep6 b4 o4
    obtain ⟨d5, c0, c1, c2, _⟩ := keep6 b4 d4
    have t5 := belowGo HB (belowGo t3 (belowGo a3 b4))
    by_cases htx : tx = s
    · have E := Lib.hid (HX.out htx)
      have e5 : (tx == s) = true := by simp [htx]
      clear htx HX HN HT L4 o4 d4 t3 a3 b4
      go_wp2_with fail
      obtain ⟨W, hW, g0, g1, g2, bW⟩ := done3 o5 (.int .i64 x) (.int .i64 y) (.int .i64 z)
      rw [hW]
      have b6 := bW w.heap.size w (Nat.le_refl _) t5
      clear hW o5 d5 r0 r1 r2 s0 s1 s2 c0 c1 c2 bW t5
      exact bodyPost_ret (v := .tuple #[.agg #[.int .i64 x, .int .i64 y, .int .i64 z], .int .i64 0]) (by simp [results, Tryz.results57, go_sem, g0, g1, g2]) rfl ⟨by rw [E.out], b6⟩
    · have E := Lib.hid (HN.out htx)
      have e5 : (tx == s) = false := by simp [htx]
      clear htx HX HN HT L4 o4 d4 t3 a3 b4
      go_wp2_with fail
      obtain ⟨W, hW, g0, g1, g2, bW⟩ := done3 o5 (.int .i64 0) (.int .i64 0) (.int .i64 0)
      rw [hW]
      have b6 := bW w.heap.size w (Nat.le_refl _) t5
      clear hW o5 d5 r0 r1 r2 s0 s1 s2 c0 c1 c2 bW t5
      exact bodyPost_ret (v := .tuple #[.agg #[.int .i64 0, .int .i64 0, .int .i64 0], .int .i64 6]) (by simp [results, Tryz.results57, go_sem, g0, g1, g2]) rfl ⟨by rw [E.out], b6⟩
  · have E := Lib.hid (rd_len h10)
    have e10 : ((s.length : Int) != 10) = true := by simp; omega
    clear h10
    go_enter Tryz.func57, Tryz.ntmps57
    go_wp2_with fail
    exact bodyPost_ret (v := .tuple #[.agg #[.int .i64 0, .int .i64 0, .int .i64 0], .int .i64 6]) (by simp [results, Tryz.results57, go_sem]) rfl ⟨by rw [E.out], HB⟩
end Go.Proofs.YtifioecofeojpaaGreatDoor
