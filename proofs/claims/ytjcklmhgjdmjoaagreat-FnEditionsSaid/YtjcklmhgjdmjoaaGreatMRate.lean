import Derived.Test.YtjcklmhgjdmjoaaGreatBase
import Derived.Laws.StructEq
import Derived.Deep.Slices
import Derived.Deep.Fields
import Derived.ChangeSame
import Derived.Sort.Walk0
import Derived.Deep.QuietTactic
import Derived.Deep.RegionHeld3
namespace Go.Proofs.YtjcklmhgjdmjoaaGreat
open Go.ChangeShapes Go.WideShapes Go.ChangeAt Go.RowKit
set_option linter.unusedVariables false
structure Rt where
 c : List UInt8
 day : Int
 num : Int
 den : Int
def Rt.cells (r : Rt) : List Value := [.string ⟨r.c.toArray⟩, .int .i64 r.day, .int .i64 r.num, .int .i64 r.den]
theorem flat_at {α β : Type} (f : α -> List β) (n : Nat) (hf : ∀ a, (f a).length = n) : ∀ (xs : List α) (k j : Nat) (a : α), xs[k]? = some a -> j < n -> (xs.flatMap f)[k * n + j]? = (f a)[j]? := by
 intro xs
 induction xs with
 | nil => intro k j a h; simp at h
 | cons x r ih =>
  intro k j a h hj
  rw [List.flatMap_cons]
  cases k with
  | zero =>
   simp at h; subst h
   rw [Nat.zero_mul, Nat.zero_add, List.getElem?_append_left (by rw [hf]; exact hj)]
  | succ k =>
   rw [List.getElem?_append_right (by rw [hf, Nat.succ_mul]; omega), hf, Nat.succ_mul, show k * n + n + j - n = k * n + j by omega]
   exact ih k j a (by simpa using h) hj
theorem flat_len {α β : Type} (f : α -> List β) (n : Nat) (hf : ∀ a, (f a).length = n) (xs : List α) : (xs.flatMap f).length = xs.length * n := by
 induction xs with
 | nil => simp
 | cons x r ih => rw [List.flatMap_cons, List.length_append, hf, ih, List.length_cons, Nat.succ_mul]; omega
def Rr (w : World) (A : Option Addr) (rs : List Rt) : Prop := Rw w A (rs.flatMap Rt.cells)
theorem Rr.at {w : World} {A : Option Addr} {rs : List Rt} (h : Rr w A rs) {k : Nat} (hk : k < rs.length) :
  ∃ b off r, A = some ⟨b, off, none⟩ /\ b < w.heap.size /\ Hid (rs[k]? = some r) /\ w.cell? ⟨b, off + k * 4, none⟩ = some (.string ⟨r.c.toArray⟩) /\ w.cell? ⟨b, off + k * 4 + 1, none⟩ = some (.int .i64 r.day) /\
   w.cell? ⟨b, off + k * 4 + 2, none⟩ = some (.int .i64 r.num) /\ w.cell? ⟨b, off + k * 4 + 3, none⟩ = some (.int .i64 r.den) := by
 have hl := flat_len Rt.cells 4 (fun _ => rfl) rs
 obtain ⟨b, off, e, hb, hc⟩ := h (by rw [hl]; omega)
 have hr : rs[k]? = some rs[k] := List.getElem?_eq_getElem hk
 have g := fun j hj => hc (k * 4 + j) _ ((flat_at Rt.cells 4 (fun _ => rfl) rs k j _ hr hj).trans (List.getElem?_eq_getElem (by exact hj)))
 refine ⟨b, off, rs[k], e, hb, Lib.hid hr, ?_, ?_, ?_, ?_⟩
 ·
  simpa [Rt.cells] using g 0 (by omega)
 ·
  simpa [Rt.cells, Nat.add_assoc] using g 1 (by omega)
 ·
  simpa [Rt.cells, Nat.add_assoc] using g 2 (by omega)
 ·
  simpa [Rt.cells, Nat.add_assoc] using g 3 (by omega)
end Go.Proofs.YtjcklmhgjdmjoaaGreat

namespace Go.Proofs.YtjcklmhgjdmjoaaGreat
theorem less_irr (x : List UInt8) : Op.bytesLess x x = false := by rw [bytesLess_eq]; simp
theorem less_trans {x y z : List UInt8} (h : Op.bytesLess x y = true) (k : Op.bytesLess y z = true) : Op.bytesLess x z = true := by
 rw [bytesLess_eq, decide_eq_true_eq] at *; exact List.lt_trans h k
theorem less_tot {x y : List UInt8} (h : Op.bytesLess x y = false) (k : Op.bytesLess y x = false) : x = y := by
 rw [bytesLess_eq, decide_eq_false_iff_not] at *
 exact List.le_antisymm (List.not_lt.1 k) (List.not_lt.1 h)
theorem less_asym {x y : List UInt8} (h : Op.bytesLess x y = true) : Op.bytesLess y x = false := by
 cases k : Op.bytesLess y x with
 | false => rfl
 | true => have := less_trans h k; rw [less_irr] at this; cases this
def upb (c : UInt8) : Bool := decide (65 <= (c.toNat : Int) /\ (c.toNat : Int) <= 90)
def codeB (l : List UInt8) : Bool := decide ((l.length : Int) = 3) && l.all upb
def xdr : List UInt8 := [88, 68, 82]
def dayB (n : Int) : Bool := decide (0 <= n /\ n <= 36524)
def termB (n : Int) : Bool := decide (1 <= n /\ n <= 1000000)
def Rt.ok (r : Rt) : Bool := codeB r.c && !(r.c == xdr) && dayB r.day && termB r.num && termB r.den
end Go.Proofs.YtjcklmhgjdmjoaaGreat

namespace Go.Proofs.YtjcklmhgjdmjoaaGreat
open Go.ChangeShapes Go.WideShapes Go.ChangeAt Go.RowKit
set_option linter.unusedVariables false
theorem wpList_push {P : Program} (w : World) {ops : Array Oper} {rest : List Oper} {o : Oper} {a : Act} {Q : Exit -> Act -> World -> Prop} (hgd : o.guard = none) (s x : Operand) (t : TypeId)
  (ho : o.op = .call { callee := .builtin .append, args := #[s, x], argTypes := #[t, t] })
  (base : Nat) (e : TypeId) (i : TypeInfo) (z : Value) (size bytes : Nat) (ht : P.underlying t = some (.slice e)) (hi : P.info? e = some i) (hz : i.zero = some z)
  (hsize : i.size = size) (hby : i.bytes = bytes) (hzs : z.cells.size = size) (hsz : 0 < size)
  (v : Value) (n : Nat) (xs : List Value) (hs : a.eval s = v) (hown : w.ownsRow base e size v n xs)
  (news : List Value) (hl : news.length = size) (h1 : ∀ u ∈ news, u.oneCell' = true)
  (hx : a.eval x = .slice (some ⟨w.heap.size, 0, none⟩) 1 1)
  (h63 : n + 1 <= maxLen) (hbytes : (n + 1) * bytes <= 140737488355328) (hbase : base <= w.heap.size)
  (h : ∀ v' w', w'.ownsRow base e size v' (n + 1) (xs ++ news) -> Below base w w' -> wpList P ops Q rest (a.put o.dst v') w') :
  wpList P ops Q (o :: rest) a (w.alloc (.cells news.toArray e)) := by
 refine wpList_append_own _ hgd s x t ho base e i z size bytes ht hi hz hsize hby hzs hsz v n xs hs (hown.alloc _) ⟨w.heap.size, 0, none⟩ 1 1 news hx (by omega) ?_ h1 h63 hbytes
  (by simp only [World.size_alloc]; omega) (fun v' w' h2 h3 _ => h v' w' h2 ?_)
 ·
  intro j u hu
  rw [show ((⟨w.heap.size, 0, none⟩ : Addr).add j) = ⟨w.heap.size, 0 + j, none⟩ from by unfold Addr.add; split <;> simp_all,
   cell_of_row _ _ _ _ _ _ (heap_alloc_new w _)]
  simpa using hu
 ·
  exact (((Below.refl base w).alloc hbase _)).grown h3 (by simp only [World.size_alloc]; omega) (fun k hk => (hown.lt k hk).1)
theorem own_form {w : World} {base : Nat} {e : TypeId} {size n : Nat} {v : Value} {xs : List Value} (h : w.ownsRow base e size v n xs) : ∃ A c, v = .slice A n c := by
 rcases h.2 with ⟨rfl, rfl⟩ | ⟨g, cap, _, rfl, _⟩
 ·
  exact ⟨none, 0, rfl⟩
 ·
  exact ⟨_, _, rfl⟩
def Sep (u v : Value) : Prop := ∀ k, u.ownBlock = some k -> v.ownBlock ≠ some k
theorem Sep.symm {u v : Value} (h : Sep u v) : Sep v u := fun k hv hu => h k hu hv
theorem wpList_push2 {P : Program} (w : World) {ops : Array Oper} {rest : List Oper} {o : Oper} {a : Act} {Q : Exit -> Act -> World -> Prop} (hgd : o.guard = none) (s x : Operand) (t : TypeId)
  (ho : o.op = .call { callee := .builtin .append, args := #[s, x], argTypes := #[t, t] })
  (base : Nat) (e : TypeId) (i : TypeInfo) (z : Value) (size bytes : Nat) (ht : P.underlying t = some (.slice e)) (hi : P.info? e = some i) (hz : i.zero = some z)
  (hsize : i.size = size) (hby : i.bytes = bytes) (hzs : z.cells.size = size) (hsz : 0 < size)
  (v : Value) (n : Nat) (xs : List Value) (hs : a.eval s = v) (hown : w.ownsRow base e size v n xs)
  (news : List Value) (hl : news.length = size) (h1 : ∀ u ∈ news, u.oneCell' = true)
  (hx : a.eval x = .slice (some ⟨w.heap.size, 0, none⟩) 1 1)
  (h63 : n + 1 <= maxLen) (hbytes : (n + 1) * bytes <= 140737488355328) (hbase : base <= w.heap.size)
  (h : ∀ v' w', w'.ownsRow base e size v' (n + 1) (xs ++ news) -> w.grownBy w' v.ownBlock -> (v'.ownBlock = v.ownBlock ∨ ∃ k, w.heap.size <= k /\ v'.ownBlock = some k) -> wpList P ops Q rest (a.put o.dst v') w') :
  wpList P ops Q (o :: rest) a (w.alloc (.cells news.toArray e)) := by
 refine wpList_append_own_at _ hgd s x t ho base e i z size bytes ht hi hz hsize hby hzs hsz v n xs hs (hown.alloc _) ⟨w.heap.size, 0, none⟩ 1 1 news hx (by omega) ?_ h1 h63 hbytes
  (by simp only [World.size_alloc]; omega) (fun v' w' h2 h3 _ h5 => h v' w' h2 ((World.grownBy_alloc w _ _).trans h3) ?_)
 ·
  intro j u hu
  rw [show ((⟨w.heap.size, 0, none⟩ : Addr).add j) = ⟨w.heap.size, 0 + j, none⟩ from by unfold Addr.add; split <;> simp_all,
   cell_of_row _ _ _ _ _ _ (heap_alloc_new w _)]
  simpa using hu
 ·
  rcases h5 with h5 | h5
  ·
   exact .inl h5
  ·
   exact .inr ⟨_, by simp only [World.size_alloc]; omega, h5⟩
end Go.Proofs.YtjcklmhgjdmjoaaGreat

namespace Go.Proofs.YtjcklmhgjdmjoaaGreat
open Go.ChangeShapes Go.WideShapes Go.ChangeAt Go.RowKit
set_option linter.unusedVariables false
theorem Rr.below {w w' : World} {A : Option Addr} {rs : List Rt} (h : Rr w A rs) (hb : Below w.heap.size w w') : Rr w' A rs := Rw.below h hb
theorem Rw.ownS {w : World} {base n size : Nat} {e : TypeId} {A : Option Addr} {c : Nat} {vs : List Value} (h : w.ownsRow base e size (.slice A n c) n vs) : Rw w A vs := fun hp => by
 rcases h.2 with ⟨hv, hx⟩ | ⟨g, cap, cur, hv, _, hh, _⟩
 ·
  have h1 := h.1; rw [hx, Nat.zero_mul] at h1; omega
 ·
  have hlt := (h.lt g (by rw [hv]; rfl)).2
  injection hv with hA _ _
  subst hA
  refine ⟨g, 0, rfl, hlt, fun j v hj => ?_⟩
  have := h.cells (g := g) rfl j v hj
  rwa [show ((⟨g, 0, none⟩ : Addr).add j) = ⟨g, 0 + j, none⟩ from by unfold Addr.add; split <;> simp_all] at this
section
variable {w w' : World} {base : Nat} {A : Option Addr} {n c : Nat} {rs : List Rt}
theorem own_below {e : TypeId} {size : Nat} {v : Value} {xs : List Value} (h : w.ownsRow base e size v n xs) (hb : Below w.heap.size w w') : w'.ownsRow base e size v n xs := by
 refine ⟨h.1, ?_⟩
 rcases h.2 with h1 | ⟨g, cap, cur, h1, h2, h3, h4⟩
 ·
  exact .inl h1
 ·
  exact .inr ⟨g, cap, cur, h1, h2, (hb.block g (by
   rcases Nat.lt_or_ge g w.heap.size with hlt | hge
   ·
    exact hlt
   ·
    rw [Array.getElem?_eq_none hge] at h3; cases h3)).trans h3, h4⟩
end
theorem own_at {w : World} {base g n c size : Nat} {e : TypeId} {xs : List Value} (h : w.ownsRow base e size (.slice (some ⟨g, 0, none⟩) n c) n xs) (j : Nat) (hj : j < xs.length) : ∃ v, w.cell? ⟨g, j, none⟩ = some v :=
 ⟨xs[j], by rw [h.cellAt j (by rw [<- h.1]; exact hj)]; simp [hj]⟩
end Go.Proofs.YtjcklmhgjdmjoaaGreat

namespace Go.Proofs.YtjcklmhgjdmjoaaGreat
open Go.ChangeShapes Go.WideShapes Go.ChangeAt Go.RowKit
set_option linter.unusedVariables false
structure Cells4 (W : World) (b o : Nat) (r : Rt) : Prop where
 c0 : W.cell? ⟨b, o, none⟩ = some (.string ⟨r.c.toArray⟩)
 c1 : W.cell? ⟨b, o + 1, none⟩ = some (.int .i64 r.day)
 c2 : W.cell? ⟨b, o + 2, none⟩ = some (.int .i64 r.num)
 c3 : W.cell? ⟨b, o + 3, none⟩ = some (.int .i64 r.den)
theorem Cells4.below {w W : World} {b o : Nat} {r : Rt} (h : Cells4 w b o r) (hl : b < w.heap.size) (hb : Below w.heap.size w W) : Cells4 W b o r :=
 ⟨(hb.cell (p := ⟨b, o, none⟩) hl).trans h.c0, (hb.cell (p := ⟨b, o + 1, none⟩) hl).trans h.c1, (hb.cell (p := ⟨b, o + 2, none⟩) hl).trans h.c2, (hb.cell (p := ⟨b, o + 3, none⟩) hl).trans h.c3⟩
end Go.Proofs.YtjcklmhgjdmjoaaGreat

