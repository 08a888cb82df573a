/-
  Walks: what kids a node wants, by the specification.
-/
import Derived.Test.YthlbboppdmdceaaTreeW
namespace Go.Proofs.Ythlbboppdmdceaa
open Go.RowKit

/-- The kinds of a node's kids. -/
def kinds (ns : List Nd) (k : Nat) : List Int := (ns.getD k default).kids.map (kidKind ns k)
theorem getD_at {ns : List Nd} {k : Nat} (hk : k < ns.length) : ns.getD k default = ns[k] := by simp [List.getD_eq_getElem?_getD, List.getElem?_eq_getElem hk]
theorem kinds_len {ns : List Nd} {k : Nat} (hk : k < ns.length) : (kinds ns k).length = ns[k].kids.length := by rw [kinds, getD_at hk, List.length_map]
theorem kinds_at {ns : List Nd} {k i : Nat} (hk : k < ns.length) (hi : i < ns[k].kids.length) : (kinds ns k)[i]'(by rw [kinds_len hk]; exact hi) = kidKind ns k ns[k].kids[i] := by
  have e : kinds ns k = ns[k].kids.map (kidKind ns k) := by rw [kinds, getD_at hk]
  simp [e]
theorem kinds_at? {ns : List Nd} {k i : Nat} (hk : k < ns.length) (hi : i < ns[k].kids.length) : (kinds ns k)[i]? = some (kidKind ns k ns[k].kids[i]) := by
  rw [List.getElem?_eq_getElem (by rw [kinds_len hk]; exact hi), kinds_at hk hi]

theorem all_take_no {α : Type} {q : α → Bool} {l : List α} {n i : Nat} {x : α} (h : l[i]? = some x) (hi : i < n) (hq : q x = false) : (l.take n).all q = false := by
  rw [List.all_eq_false]
  refine ⟨x, ?_, by simp [hq]⟩
  obtain ⟨hl, e⟩ := List.getElem?_eq_some_iff.1 h
  exact List.mem_take_iff_getElem.2 ⟨i, by omega, e⟩
theorem all_take_yes {α : Type} {q : α → Bool} {l : List α} {n : Nat} (h : ∀ j x, j < n → l[j]? = some x → q x = true) : (l.take n).all q = true := by
  rw [List.all_eq_true]
  intro x hx
  obtain ⟨i, hi, e⟩ := List.mem_take_iff_getElem.1 hx
  exact h i x (by omega) (by rw [List.getElem?_eq_getElem (by omega), e])
theorem all_drop_no {α : Type} {q : α → Bool} {l : List α} {n i : Nat} {x : α} (h : l[i]? = some x) (hi : n ≤ i) (hq : q x = false) : (l.drop n).all q = false := by
  rw [List.all_eq_false]
  refine ⟨x, ?_, by simp [hq]⟩
  exact List.mem_iff_getElem?.2 ⟨i - n, by rw [List.getElem?_drop, show n + (i - n) = i by omega]; exact h⟩
theorem all_drop_yes {α : Type} {q : α → Bool} {l : List α} {n : Nat} (h : ∀ j x, n ≤ j → l[j]? = some x → q x = true) : (l.drop n).all q = true := by
  rw [List.all_eq_true]
  intro x hx
  obtain ⟨i, hi⟩ := List.mem_iff_getElem?.1 hx
  rw [List.getElem?_drop] at hi
  exact h (n + i) x (by omega) hi

/-- A program in its box. -/
structure Boxed (B : Nat) (w : World) (nv mv pv : Value) : Prop where
  c0 : w.cell? ⟨B, 0, none⟩ = some nv
  c1 : w.cell? ⟨B, 1, none⟩ = some mv
  c2 : w.cell? ⟨B, 2, none⟩ = some pv
  lt : B < w.heap.size
theorem Boxed.made (w : World) (nv mv pv : Value) (t : TypeId) : Boxed w.heap.size (w.alloc (.cells #[nv, mv, pv] t)) nv mv pv := by
  refine ⟨?_, ?_, ?_, ?_⟩
  · rw [World.cell?_alloc_new]; rfl
  · rw [World.cell?_alloc_new]; rfl
  · rw [World.cell?_alloc_new]; rfl
  · simp
theorem Boxed.stays {B : Nat} {w w' : World} {nv mv pv : Value} (h : Boxed B w nv mv pv) (hb : Below w.heap.size w w') : Boxed B w' nv mv pv :=
  ⟨(hb.cell (p := ⟨B, 0, none⟩) h.lt).trans h.c0, (hb.cell (p := ⟨B, 1, none⟩) h.lt).trans h.c1, (hb.cell (p := ⟨B, 2, none⟩) h.lt).trans h.c2, Nat.lt_of_lt_of_le h.lt hb.size⟩

def ValuesR (W1 : World) (l : List Int) (n : Nat) (iv : Value) (wr : World) : Prop :=
  ∃ i : Nat, i ≤ n ∧ iv = .int .i64 i ∧ Hid (Below W1.heap.size W1 wr) ∧ Hid (∀ j x, j < i → l[j]? = some x → valueQ x = true)

set_option maxHeartbeats 1000000 in
theorem l05Values_any (nv mv pv : Value) (ns : List Nd) (k n : Nat) (w : World) (hN : NdsAt w nv ns) (hk : k < ns.length) (hn : n ≤ ns[k].kids.length) (hl : ns.length ≤ 1048576) (hkl : ns[k].kids.length ≤ 1048576) :
    Calls Try.prog 42 #[.agg #[nv, mv, pv], .int .i64 (k : Int), .int .i64 (n : Int)] w fun e w' => e = .returned (.bool (((kinds ns k).take n).all valueQ)) ∧ Below w.heap.size w w' := by
  have hb1 : Below w.heap.size w (w.alloc (.cells #[nv, mv, pv] 33)) := (Below.refl _ _).alloc (Nat.le_refl _) _
  have HN := hide (hN.stays hb1)
  have HX := hide (Boxed.made w nv mv pv 33)
  have HB := hide hb1
  clear hN hb1
  go_enter Try.func42, Try.ntmps42
  go_wp2
  obtain ⟨W1, hW⟩ : ∃ W1, w.alloc (.cells #[nv, mv, pv] 33) = W1 := ⟨_, rfl⟩
  rw [hW] at HN HX HB ⊢
  clear hW
  go_loopw [7] (ValuesR W1 (kinds ns k) n) (fun iv _ => n - (intOf iv).toNat)
  case atStart => exact ⟨0, by omega, rfl, Below.refl _ _, fun j x hj => absurd hj (Nat.not_lt_zero j)⟩
  case round =>
    obtain ⟨i, hi, rfl, HB2, HA⟩ := hrel
    obtain ⟨c0, c1, c2, _⟩ := HX.out.stays HB2.out
    by_cases hlt : i < n
    · have hlt' : (i : Int) < (n : Int) := by omega
      have C1 := fun w (h : NdsAt w nv ns) => hide (l05Kid_any nv mv pv ns k i w h hk (by omega) hl)
      have C2 := fun x w => hide (l05Value_any x w)
      have hx := hide (kinds_at? hk (show i < ns[k].kids.length by omega))
      obtain ⟨x, ex⟩ : ∃ x, x = kidKind ns k ns[k].kids[i] := ⟨_, rfl⟩
      rw [← ex] at hx
      simp only [← ex] at C1
      clear ex
      have HN2 := hide (HN.out.stays HB2.out)
      cases hv : valueQ x with
      | true => 
        have C2 := C2 x
        rw [hv] at C2
        go_wp2_with (first | (go_at_call 44; refine (unhide (C1 _ HN2.out)).mono ?_; rintro e w2 ⟨rfl, hb2⟩; have HB3 := hide hb2; clear hb2) | (go_at_call 16; refine (unhide (C2 _)).mono ?_; rintro e w3 ⟨rfl, rfl⟩))
        go_roundw
        case rel => exact ⟨i + 1, by omega, by go_num, HB2.out.trans (HB3.out.mono HB2.out.size), fun j y hj hy => by
          rcases Nat.lt_succ_iff_lt_or_eq.1 hj with hj | hj
          · exact HA.out j y hj hy
          · subst hj; rw [hx.out] at hy; cases hy; exact hv⟩
        case measure => simp [intOf]; omega
      | false =>
        have C2 := C2 x
        rw [hv] at C2
        go_wp2_with (first | (go_at_call 44; refine (unhide (C1 _ HN2.out)).mono ?_; rintro e w2 ⟨rfl, hb2⟩; have HB3 := hide hb2; clear hb2) | (go_at_call 16; refine (unhide (C2 _)).mono ?_; rintro e w3 ⟨rfl, rfl⟩))
        go_ret
        exact ⟨by rw [all_take_no hx.out hlt hv]; rfl, HB.out.trans ((HB2.out.trans (HB3.out.mono HB2.out.size)).mono HB.out.size)⟩
    · have hlt' : ¬ (i : Int) < (n : Int) := by omega
      go_wp2
      go_ret
      exact ⟨by rw [all_take_yes (fun j x hj hx => HA.out j x (by omega) hx)]; rfl, HB.out.trans (HB2.out.mono HB.out.size)⟩
end Go.Proofs.Ythlbboppdmdceaa
