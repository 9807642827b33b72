/- What the laws over editions need: rows of the call's own within a range of blocks, kept over what touches other blocks. -/
import Derived.Test.YtjcklmhgjdmjoaaLib
namespace Go.Proofs.Ytjcklmhgjdmjoaa
open Go.ChangeShapes Go.WideShapes Go.ChangeAt Go.RowKit
set_option linter.unusedVariables false

theorem EdnR.nil' {w : World} {A : Option Addr} : EdnR w A [] := ⟨[], rfl, fun hp => by simp at hp, fun k h e h1 => by simp at h1⟩
theorem Edn.tot_mem {es : List Edn} {e : Edn} (h : e ∈ es) : e.cs.length ≤ Edn.tot es := by
  induction es with
  | nil => cases h
  | cons x es ih =>
    simp only [Edn.tot]
    rcases List.mem_cons.1 h with rfl | h
    · omega
    · have := ih h; omega
/-- What is left of the size, for the law. -/
theorem Edn.szT_law {es : List Edn} {m : Int} (hm : Edn.szT es 1048576 = m) (h : 0 ≤ m) : es.length ≤ 1048576 ∧ (∀ e ∈ es, ∀ p ∈ e.cs, p.sz ≤ 1048576) ∧ (∀ e ∈ es, e.cs.length ≤ 1048576) ∧ m ≤ 1048576 ∧ Edn.tot es + es.length ≤ 1048576 := by
  subst hm
  obtain ⟨h1, h2⟩ := Edn.szT_bd h
  exact ⟨by omega, fun e he p hp => by have := h2 e he p hp; omega, fun e he => by have := Edn.tot_mem he; omega, by omega, by omega⟩
/-- A row of the call's own within blocks lo..hi-1. -/
def Own2 (w : World) (lo hi : Nat) (e : TypeId) (size : Nat) (A : Option Addr) (n c : Nat) (xs : List Value) : Prop :=
  w.ownsRow lo e size (.slice A n c) n xs ∧ ∀ g, (Value.slice A n c).ownBlock = some g → g < hi
section
variable {w w' : World} {lo hi n c size : Nat} {e : TypeId} {A : Option Addr} {xs : List Value}
theorem Own2.of (h : w.ownsRow lo e size (.slice A n c) n xs) : Own2 w lo w.heap.size e size A n c xs := ⟨h, fun g hg => (h.lt g hg).2⟩
theorem Own2.below (h : Own2 w lo hi e size A n c xs) (hb : Below w.heap.size w w') : Own2 w' lo hi e size A n c xs := ⟨own_below h.1 hb, h.2⟩
theorem Own2.tou {lo' hi' : Nat} (h : Own2 w lo hi e size A n c xs) (ht : Tou lo' hi' w w') (hd : hi' ≤ lo ∨ hi ≤ lo') : Own2 w' lo hi e size A n c xs :=
  ⟨own_tou h.1 ht fun g hg => by have a := (h.1.lt g hg).1; have b := h.2 g hg; omega, h.2⟩
/-- Its own row is written. -/
theorem Own2.wrote (h : Own2 w lo hi e size A n c xs) (hg : w.grownBy w' (Value.slice A n c).ownBlock) : Tou lo hi w w' :=
  Tou.of_grown hg fun g hq => ⟨(h.1.lt g hq).1, h.2 g hq⟩
theorem Own2.hiN (h : Own2 w lo hi e size A n c xs) : ∀ g, (Value.slice A n c).ownBlock = some g → g < hi := h.2
end
theorem Own2.ir {w : World} {lo hi n c : Nat} {A : Option Addr} {xs : List Int} (h : Own2 w lo hi 2 1 A n c (xs.map (Value.int .i64))) : Ir w A xs := Rw.ownS h.1
theorem Own2.sr {w : World} {lo hi n c : Nat} {A : Option Addr} {ws : List (List UInt8)} (h : Own2 w lo hi 9 1 A n c (ws.map encStr)) : Sr w A ws := Rw.ownS h.1
theorem Own2.cl {w : World} {lo hi n c : Nat} {A : Option Addr} {rs : List Cls} (h : Own2 w lo hi 54 7 A n c (rs.flatMap Cls.cells)) : ClsR w A rs := Rw.ownS h.1
theorem heldInts_w (A : Option Addr) (n c : Nat) (k0 : Int) (w : World) (hx : Ir w A (marks k0 n)) (hn : n ≤ 1048576) (h0 : 0 ≤ k0) (h1 : k0 ≤ 1000000000000) :
    Calls Try.prog 64 #[.slice A n c, .int .i64 k0] w (Gives w (.int .i64 (k0 + n))) := (heldInts A n c k0 w hx hn h0 h1).mono fun e w' k => ⟨k.1, k.2 ▸ Below.refl _ _⟩
theorem Cls.szT_law {rs : List Cls} {n m : Int} (hm : Cls.szT rs n = m) (h : 0 ≤ m) (hn : n ≤ 1048576) : rs.length ≤ 1048576 ∧ (∀ p ∈ rs, p.sz ≤ 1048576) ∧ m ≤ 1048576 := by
  subst hm
  obtain ⟨h0, h1, h2⟩ := Cls.szT_bd h
  exact ⟨by omega, fun r hr => by have := h2 r hr; omega, by omega⟩
theorem Edn.tot_le {es : List Edn} (h : ∀ d ∈ es, d.cs.length ≤ 12) : Edn.tot es ≤ 12 * es.length := by
  induction es with
  | nil => simp [Edn.tot]
  | cons x es ih =>
    have h1 := ih fun d hd => h d (List.mem_cons_of_mem _ hd)
    have h2 := h x (List.mem_cons_self ..)
    simp only [Edn.tot, List.length_cons]; omega
/-- What an answer may hold. -/
theorem lib_bd {r : List Edn} (h : r = [] ∨ lbB r = true) : r.length ≤ 6 ∧ (∀ d ∈ r, d.cs.length ≤ 12) ∧ Edn.fin 1 r ≤ 1000 := by
  have key : r.length ≤ 6 ∧ ∀ d ∈ r, d.cs.length ≤ 12 := by
    rcases h with rfl | h
    · exact ⟨by simp, fun d hd => by cases hd⟩
    · have L := lb_of h
      exact ⟨L.len.2, fun d hd => (rb_of (L.one d hd).2).hi⟩
  have := Edn.tot_le key.2
  exact ⟨key.1, key.2, by unfold Edn.fin; omega⟩
end Go.Proofs.Ytjcklmhgjdmjoaa
