/-
  Walks: kids and types of nodes, by the program.
-/
import Derived.Test.YtnedpcgdepiakaaTreeY
import Derived.Handy
import Derived.Test.YtnedpcgdepiakaaTreeO
namespace Go.Proofs.Ytnedpcgdepiakaa
open Go.RowKit

/-- The cells of a node as a value. -/
abbrev ndCells (kd nu : Int) (nm mo it : ByteArray) (kv : Value) : Array Value := #[.int .i64 kd, .int .i64 nu, .string nm, .string mo, .string it, kv]

end Go.Proofs.Ytnedpcgdepiakaa

namespace Go.Proofs.Ytnedpcgdepiakaa
open Go.RowKit

/-- A node in a box of its own, its cells alone. -/
structure NdBox (B : Nat) (w : World) (kd nu : Int) (nm mo it : ByteArray) (kv : Value) : Prop where
  c0 : w.cell? ⟨B, 0, none⟩ = some (.int .i64 kd)
  c1 : w.cell? ⟨B, 1, none⟩ = some (.int .i64 nu)
  c2 : w.cell? ⟨B, 2, none⟩ = some (.string nm)
  c3 : w.cell? ⟨B, 3, none⟩ = some (.string mo)
  c4 : w.cell? ⟨B, 4, none⟩ = some (.string it)
  c5 : w.cell? ⟨B, 5, none⟩ = some kv
  lt : B < w.heap.size
theorem NdBox.made (w : World) (kd nu : Int) (nm mo it : ByteArray) (kv : Value) (t : TypeId) :
    NdBox w.heap.size (w.alloc (.cells #[.int .i64 kd, .int .i64 nu, .string nm, .string mo, .string it, kv] t)) kd nu nm mo it kv := by
  refine ⟨?_, ?_, ?_, ?_, ?_, ?_, ?_⟩
  · rw [World.cell?_alloc_new]; rfl
  · rw [World.cell?_alloc_new]; rfl
  · rw [World.cell?_alloc_new]; rfl
  · rw [World.cell?_alloc_new]; rfl
  · rw [World.cell?_alloc_new]; rfl
  · rw [World.cell?_alloc_new]; rfl
  · simp
theorem NdBox.stays {B : Nat} {w w' : World} {kd nu : Int} {nm mo it : ByteArray} {kv : Value} (h : NdBox B w kd nu nm mo it kv) (hb : Below w.heap.size w w') : NdBox B w' kd nu nm mo it kv :=
  ⟨(hb.cell (p := ⟨B, 0, none⟩) h.lt).trans h.c0, (hb.cell (p := ⟨B, 1, none⟩) h.lt).trans h.c1, (hb.cell (p := ⟨B, 2, none⟩) h.lt).trans h.c2,
    (hb.cell (p := ⟨B, 3, none⟩) h.lt).trans h.c3, (hb.cell (p := ⟨B, 4, none⟩) h.lt).trans h.c4, (hb.cell (p := ⟨B, 5, none⟩) h.lt).trans h.c5,
    Nat.lt_of_lt_of_le h.lt hb.size⟩

/-- What holds of the world while a node's type is found. -/
abbrev TyS (W : World) (B : Nat) (kd nu : Int) (nm mo it : ByteArray) (kv : Value) (ks : List Int) (w' : World) : Prop :=
  w'.cell? ⟨B, 0, none⟩ = some (.int .i64 kd) ∧ w'.cell? ⟨B, 1, none⟩ = some (.int .i64 nu) ∧ w'.cell? ⟨B, 2, none⟩ = some (.string nm) ∧ w'.cell? ⟨B, 3, none⟩ = some (.string mo) ∧ w'.cell? ⟨B, 4, none⟩ = some (.string it) ∧ w'.cell? ⟨B, 5, none⟩ = some kv
    ∧ Hid (B < w'.heap.size ∧ IntsAt w' kv ks ∧ Below W.heap.size W w')
theorem TyS.stays {W : World} {B : Nat} {kd nu : Int} {nm mo it : ByteArray} {kv : Value} {ks : List Int} {w w' : World} (h : TyS W B kd nu nm mo it kv ks w) (hb : Below w.heap.size w w') : TyS W B kd nu nm mo it kv ks w' := by
  obtain ⟨c0, c1, c2, c3, c4, c5, l, hk, hbw⟩ := h
  exact ⟨(hb.cell (p := ⟨B, 0, none⟩) l).trans c0, (hb.cell (p := ⟨B, 1, none⟩) l).trans c1, (hb.cell (p := ⟨B, 2, none⟩) l).trans c2, (hb.cell (p := ⟨B, 3, none⟩) l).trans c3, (hb.cell (p := ⟨B, 4, none⟩) l).trans c4, (hb.cell (p := ⟨B, 5, none⟩) l).trans c5, Nat.lt_of_lt_of_le l hb.size, hk.stays hb, hbw.trans (hb.mono hbw.size)⟩

theorem TyS.kids {W : World} {B : Nat} {kd nu : Int} {nm mo it : ByteArray} {kv : Value} {ks : List Int} {w : World} (h : TyS W B kd nu nm mo it kv ks w) : IntsAt w kv ks := h.2.2.2.2.2.2.out.2.1
theorem TyS.below {W : World} {B : Nat} {kd nu : Int} {nm mo it : ByteArray} {kv : Value} {ks : List Int} {w : World} (h : TyS W B kd nu nm mo it kv ks w) : Below W.heap.size W w := h.2.2.2.2.2.2.out.2.2
theorem TyS.drew {W : World} {B : Nat} {kd nu : Int} {nm mo it : ByteArray} {kv : Value} {ks : List Int} {w : World} (h : TyS W B kd nu nm mo it kv ks w) : TyS W B kd nu nm mo it kv ks w.drew := h.stays (Below.refl _ _).drew

end Go.Proofs.Ytnedpcgdepiakaa

namespace Go.Proofs.Ytnedpcgdepiakaa
open Go.RowKit

def EqlR (w : World) (xs ys : List Int) (iv : Value) (wr : World) : Prop :=
  ∃ i : Nat, i ≤ xs.length ∧ iv = .int .i64 i ∧ Hid (Below w.heap.size w wr) ∧ Hid (∀ j, j < i → xs[j]? = ys[j]?)

def IdxR (w : World) (xs : List Int) (y : Int) (iv : Value) (wr : World) : Prop :=
  ∃ i : Nat, i ≤ xs.length ∧ iv = .int .i64 i ∧ wr = w ∧ Hid (∀ j x, j < i → xs[j]? = some x → y ≠ x)

set_option maxHeartbeats 1000000 in
theorem index_any (v : Value) (xs : List Int) (y : Int) (w : World) (h1 : IntsAt w v xs) (hl : xs.length ≤ 1048576) :
    Calls Try.prog 46 #[v, .int .i64 y] w fun e w' => ∃ i : Int, e = .returned (.int .i64 i) ∧ w' = w ∧ (0 ≤ i ↔ y ∈ xs) := by
  have H1 := hide h1
  obtain ⟨ao, c, rfl, _⟩ := h1
  obtain ⟨n, en⟩ : ∃ n, xs.length = n := ⟨_, rfl⟩
  have EN := hide en
  rw [en] at H1 hl ⊢
  clear en
  go_enter Try.func46, Try.ntmps46
  go_wp2
  go_loopw [8] (IdxR w xs y) (fun iv _ => n - (intOf iv).toNat)
  case atStart => exact ⟨0, by omega, rfl, rfl, fun j x hj => absurd hj (Nat.not_lt_zero j)⟩
  case round =>
    obtain ⟨i, hi, rfl, rfl, HA⟩ := hrel
    rw [EN.out] at hi
    by_cases hlt : i < n
    · have hlt' : (i : Int) < (n : Int) := by omega
      have hi0 : (0 : Int) ≤ (i : Int) := by omega
      have hix : i < xs.length := by rw [EN.out]; exact hlt
      obtain ⟨ao', c', e1, hc1⟩ := H1.out
      injection e1 with e2 e3 e4
      subst e2
      obtain ⟨a, rfl, _, hx⟩ := hc1 i hix
      have EX : Hid (xs[i]? = some xs[i]) := List.getElem?_eq_getElem hix
      obtain ⟨x, ex⟩ : ∃ x, xs[i] = x := ⟨_, rfl⟩
      rw [ex] at hx EX
      clear ex hc1 e3 e4
      by_cases hxy : y = x
      · subst hxy
        go_wp2
        go_ret
        exact ⟨_, rfl, rfl, ⟨fun _ => List.mem_iff_getElem?.2 ⟨i, EX.out⟩, fun _ => by omega⟩⟩
      · go_wp2
        go_roundw
        case rel => exact ⟨i + 1, by rw [EN.out]; omega, by go_num, rfl, fun j z hj hz => by
          rcases Nat.lt_succ_iff_lt_or_eq.1 hj with h | h
          · exact HA.out j z h hz
          · subst h; rw [EX.out] at hz; cases hz; exact hxy⟩
        case measure => simp [intOf]; omega
    · have hlt' : ¬ (i : Int) < (n : Int) := by omega
      go_wp2
      go_ret
      exact ⟨_, rfl, rfl, ⟨fun h => absurd h (by decide), fun h => by
        obtain ⟨j, hj⟩ := List.mem_iff_getElem?.1 h
        have hj2 := (List.getElem?_eq_some_iff.1 hj).1
        rw [EN.out] at hj2
        exact absurd rfl (HA.out j y (by omega) hj)⟩⟩

theorem contains_any (v : Value) (xs : List Int) (y : Int) (w : World) (h1 : IntsAt w v xs) (hl : xs.length ≤ 1048576) :
    Calls Try.prog 34 #[v, .int .i64 y] w fun e w' => e = .returned (.bool (decide (y ∈ xs))) ∧ w' = w := by
  have C := fun w h => hide (index_any v xs y w h hl)
  obtain ⟨b, hb⟩ : ∃ b, decide (y ∈ xs) = b := ⟨_, rfl⟩
  rw [hb]
  have HB := hide hb
  have H1 := hide h1
  clear hb h1
  go_enter Try.func34, Try.ntmps34
  go_wp2_with (go_at_call 46; refine (unhide (C _ H1.out)).mono ?_; rintro e w1 ⟨i, rfl, rfl, hi⟩; have HI := hide hi; clear hi)
  go_ret
  refine ⟨?_, rfl⟩
  rw [← HB.out]
  by_cases h : y ∈ xs
  · simp [h, HI.out.2 h]
  · have : ¬ 0 ≤ i := fun h2 => h (HI.out.1 h2)
    simp [h, this]
end Go.Proofs.Ytnedpcgdepiakaa
