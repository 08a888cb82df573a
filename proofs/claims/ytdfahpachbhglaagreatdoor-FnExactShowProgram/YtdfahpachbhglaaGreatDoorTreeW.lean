/-
  Walks: kids of a node, by the specification.
-/
import Derived.Test.YtdfahpachbhglaaGreatDoorAidCard
import Derived.Test.YtdfahpachbhglaaGreatDoorChecked
import Derived.BigQuiet
import Derived.WalkSmall
import Derived.Deep.RegionHeld3
import Derived.Test.YtdfahpachbhglaaGreatDoorRowP
import Derived.Laws.OwnMore
import Derived.Handy
namespace Go.Proofs.YtdfahpachbhglaaGreatDoor
open Go.RowKit

theorem l01In_gen (x lo hi : Int) (w : World) : Calls Tryz.prog 30 #[.int .i64 x, .int .i64 lo, .int .i64 hi] w fun e w' => e = .returned (.bool (inZ lo hi x)) ∧ w' = w := by
  by_cases h1 : lo ≤ x
  · have e : inZ lo hi x = decide (x ≤ hi) := by simp [inZ, h1]
    rw [e]
    go_enter Tryz.func30, Tryz.ntmps30
    go_wp2
    go_ret
    exact ⟨rfl, rfl⟩
  · have e : inZ lo hi x = false := by simp [inZ, h1]
    rw [e]
    go_enter Tryz.func30, Tryz.ntmps30
    go_wp2
    go_ret
    exact ⟨rfl, rfl⟩

theorem l05Value_any (k : Int) (w : World) : Calls Tryz.prog 73 #[.int .i64 k] w fun e w' => e = .returned (.bool (valueQ k)) ∧ w' = w := by
  have C := fun w => hide (l01In_gen k 1 5 w)
  go_enter Tryz.func73, Tryz.ntmps73
  go_wp2_with (go_at_call 30; refine (unhide (C _)).mono ?_; rintro e w1 ⟨rfl, rfl⟩)
  go_ret
  exact ⟨rfl, rfl⟩
theorem l05Statement_any (k : Int) (w : World) : Calls Tryz.prog 74 #[.int .i64 k] w fun e w' => e = .returned (.bool (stmtQ k)) ∧ w' = w := by
  have C := fun w => hide (l01In_gen k 11 19 w)
  go_enter Tryz.func74, Tryz.ntmps74
  go_wp2_with (go_at_call 30; refine (unhide (C _)).mono ?_; rintro e w1 ⟨rfl, rfl⟩)
  go_ret
  exact ⟨rfl, rfl⟩

set_option maxHeartbeats 1000000 in
theorem l05Kid_any (nv mv pv : Value) (ns : List Nd) (k i : Nat) (w : World) (hN : NdsAt w nv ns) (hk : k < ns.length) (hi : i < ns[k].kids.length) (hl : ns.length ≤ 1048576) :
    Calls Tryz.prog 95 #[.agg #[nv, mv, pv], .int .i64 (k : Int), .int .i64 (i : Int)] w fun e w' => e = .returned (.int .i64 (kidKind ns k ns[k].kids[i])) ∧ Below w.heap.size w w' := by
  have hb1 : Below w.heap.size w (w.alloc (.cells #[nv, mv, pv] 34)) := (Below.refl _ _).alloc (Nat.le_refl _) _
  have hN1 := hN.stays hb1
  obtain ⟨ao, c, rfl, hc⟩ := hN1
  obtain ⟨a, kv, rfl, ha, hx⟩ := hc k hk
  obtain ⟨p, hpa⟩ : ∃ p, a.add (k * 6) = p := ⟨_, rfl⟩
  rw [hpa] at hx
  have c5 := hx.c5
  obtain ⟨bo, cb, rfl, hkc⟩ := hx.kids
  obtain ⟨b, rfl, hbb, hb5⟩ := hkc i hi
  obtain ⟨x, hxe⟩ : ∃ x, x = ns[k].kids[i] := ⟨_, rfl⟩
  rw [← hxe] at hb5 ⊢
  have C := fun w => hide (l01In_gen x 0 ((k : Int) - 1) w)
  have hi0 : (0 : Int) ≤ (k : Int) := by omega
  have hi1 : (k : Int) < (ns.length : Int) := by omega
  have hj0 : (0 : Int) ≤ (i : Int) := by omega
  have hj1 : (i : Int) < (ns[k].kids.length : Int) := by omega
  obtain ⟨n, hn⟩ : ∃ n, n = ns.length := ⟨_, rfl⟩
  obtain ⟨m, hmm⟩ : ∃ m, m = ns[k].kids.length := ⟨_, rfl⟩
  cases hin : inZ 0 ((k : Int) - 1) x with
  | true =>
    obtain ⟨hx0, hx1⟩ := inZ_yes.1 hin
    obtain ⟨y, hy⟩ : ∃ y : Nat, x = (y : Int) := ⟨x.toNat, by omega⟩
    have hyn : y < ns.length := by omega
    obtain ⟨a2, kv2, e2, ha2, hx2⟩ := hc y hyn
    have e3 : a2 = a := (Option.some.inj e2).symm
    subst e3
    obtain ⟨p2, hpa2⟩ : ∃ p2, a2.add (y * 6) = p2 := ⟨_, rfl⟩
    rw [hpa2] at hx2
    have d0 := hx2.c0
    have hkk : kidKind ns k x = ns[y].kind := by
      rw [kidKind, hin, if_pos rfl, hy]
      simp [List.getD_eq_getElem?_getD, List.getElem?_eq_getElem hyn]
    rw [hkk]
    rw [hin] at C
    subst hy
    have hy0 : (0 : Int) ≤ (y : Int) := by omega
    have hy1 : (y : Int) < (ns.length : Int) := by omega
    have HB := hide hb1
    clear hc hkc hx hx2 hin hkk hN hb1 hxe
    go_enter Tryz.func95, Tryz.ntmps95
    go_wp2_with (go_at_call 30; refine (unhide (C _)).mono ?_; rintro e w1 ⟨rfl, rfl⟩)
    go_ret
    exact ⟨rfl, HB.out⟩
  | false =>
    have hkk : kidKind ns k x = 0 := by rw [kidKind, hin]; rfl
    rw [hkk]
    rw [hin] at C
    have HB := hide hb1
    clear hc hkc hx hin hkk hN hb1 hxe
    go_enter Tryz.func95, Tryz.ntmps95
    go_wp2_with (go_at_call 30; refine (unhide (C _)).mono ?_; rintro e w1 ⟨rfl, rfl⟩)
    go_ret
    exact ⟨rfl, HB.out⟩
end Go.Proofs.YtdfahpachbhglaaGreatDoor

namespace Go.Proofs.YtdfahpachbhglaaGreatDoor
open Go.RowKit

/-- The kinds of a node's kids. -/
def kinds (ns : List Nd) (k : Nat) : List Int := (ns.getD k default).kids.map (kidKind ns k)
theorem getD_at {ns : List Nd} {k : Nat} (hk : k < ns.length) : ns.getD k default = ns[k] := by simp [List.getD_eq_getElem?_getD, List.getElem?_eq_getElem hk]
theorem kinds_len {ns : List Nd} {k : Nat} (hk : k < ns.length) : (kinds ns k).length = ns[k].kids.length := by rw [kinds, getD_at hk, List.length_map]
theorem kinds_at {ns : List Nd} {k i : Nat} (hk : k < ns.length) (hi : i < ns[k].kids.length) : (kinds ns k)[i]'(by rw [kinds_len hk]; exact hi) = kidKind ns k ns[k].kids[i] := by
  have e : kinds ns k = ns[k].kids.map (kidKind ns k) := by rw [kinds, getD_at hk]
  simp [e]
theorem kinds_at? {ns : List Nd} {k i : Nat} (hk : k < ns.length) (hi : i < ns[k].kids.length) : (kinds ns k)[i]? = some (kidKind ns k ns[k].kids[i]) := by
  rw [List.getElem?_eq_getElem (by rw [kinds_len hk]; exact hi), kinds_at hk hi]

theorem all_take_no {α : Type} {q : α → Bool} {l : List α} {n i : Nat} {x : α} (h : l[i]? = some x) (hi : i < n) (hq : q x = false) : (l.take n).all q = false := by
  rw [List.all_eq_false]
  refine ⟨x, ?_, by simp [hq]⟩
  obtain ⟨hl, e⟩ := List.getElem?_eq_some_iff.1 h
  exact List.mem_take_iff_getElem.2 ⟨i, by omega, e⟩
theorem all_take_yes {α : Type} {q : α → Bool} {l : List α} {n : Nat} (h : ∀ j x, j < n → l[j]? = some x → q x = true) : (l.take n).all q = true := by
  rw [List.all_eq_true]
  intro x hx
  obtain ⟨i, hi, e⟩ := List.mem_take_iff_getElem.1 hx
  exact h i x (by omega) (by rw [List.getElem?_eq_getElem (by omega), e])
theorem all_drop_no {α : Type} {q : α → Bool} {l : List α} {n i : Nat} {x : α} (h : l[i]? = some x) (hi : n ≤ i) (hq : q x = false) : (l.drop n).all q = false := by
  rw [List.all_eq_false]
  refine ⟨x, ?_, by simp [hq]⟩
  exact List.mem_iff_getElem?.2 ⟨i - n, by rw [List.getElem?_drop, show n + (i - n) = i by omega]; exact h⟩
theorem all_drop_yes {α : Type} {q : α → Bool} {l : List α} {n : Nat} (h : ∀ j x, n ≤ j → l[j]? = some x → q x = true) : (l.drop n).all q = true := by
  rw [List.all_eq_true]
  intro x hx
  obtain ⟨i, hi⟩ := List.mem_iff_getElem?.1 hx
  rw [List.getElem?_drop] at hi
  exact h (n + i) x (by omega) hi

/-- A program in its box. -/
structure Boxed (B : Nat) (w : World) (nv mv pv : Value) : Prop where
  c0 : w.cell? ⟨B, 0, none⟩ = some nv
  c1 : w.cell? ⟨B, 1, none⟩ = some mv
  c2 : w.cell? ⟨B, 2, none⟩ = some pv
  lt : B < w.heap.size
theorem Boxed.made (w : World) (nv mv pv : Value) (t : TypeId) : Boxed w.heap.size (w.alloc (.cells #[nv, mv, pv] t)) nv mv pv := by
  refine ⟨?_, ?_, ?_, ?_⟩
  · rw [World.cell?_alloc_new]; rfl
  · rw [World.cell?_alloc_new]; rfl
  · rw [World.cell?_alloc_new]; rfl
  · simp
theorem Boxed.stays {B : Nat} {w w' : World} {nv mv pv : Value} (h : Boxed B w nv mv pv) (hb : Below w.heap.size w w') : Boxed B w' nv mv pv :=
  ⟨(hb.cell (p := ⟨B, 0, none⟩) h.lt).trans h.c0, (hb.cell (p := ⟨B, 1, none⟩) h.lt).trans h.c1, (hb.cell (p := ⟨B, 2, none⟩) h.lt).trans h.c2, Nat.lt_of_lt_of_le h.lt hb.size⟩

def ValuesR (W1 : World) (l : List Int) (n : Nat) (iv : Value) (wr : World) : Prop :=
  ∃ i : Nat, i ≤ n ∧ iv = .int .i64 i ∧ Hid (Below W1.heap.size W1 wr) ∧ Hid (∀ j x, j < i → l[j]? = some x → valueQ x = true)

set_option maxHeartbeats 1000000 in
theorem l05Values_any (nv mv pv : Value) (ns : List Nd) (k n : Nat) (w : World) (hN : NdsAt w nv ns) (hk : k < ns.length) (hn : n ≤ ns[k].kids.length) (hl : ns.length ≤ 1048576) (hkl : ns[k].kids.length ≤ 1048576) :
    Calls Tryz.prog 93 #[.agg #[nv, mv, pv], .int .i64 (k : Int), .int .i64 (n : Int)] w fun e w' => e = .returned (.bool (((kinds ns k).take n).all valueQ)) ∧ Below w.heap.size w w' := by
  have hb1 : Below w.heap.size w (w.alloc (.cells #[nv, mv, pv] 34)) := (Below.refl _ _).alloc (Nat.le_refl _) _
  have HN := hide (hN.stays hb1)
  have HX := hide (Boxed.made w nv mv pv 34)
  have HB := hide hb1
  clear hN hb1
  go_enter Tryz.func93, Tryz.ntmps93
  go_wp2
  obtain ⟨W1, hW⟩ : ∃ W1, w.alloc (.cells #[nv, mv, pv] 34) = W1 := ⟨_, rfl⟩
  rw [hW] at HN HX HB ⊢
  clear hW
  go_loopw [7] (ValuesR W1 (kinds ns k) n) (fun iv _ => n - (intOf iv).toNat)
  case atStart => exact ⟨0, by omega, rfl, Below.refl _ _, fun j x hj => absurd hj (Nat.not_lt_zero j)⟩
  case round =>
    obtain ⟨i, hi, rfl, HB2, HA⟩ := hrel
    obtain ⟨c0, c1, c2, _⟩ := HX.out.stays HB2.out
    by_cases hlt : i < n
    · have hlt' : (i : Int) < (n : Int) := by omega
      have C1 := fun w (h : NdsAt w nv ns) => hide (l05Kid_any nv mv pv ns k i w h hk (by omega) hl)
      have C2 := fun x w => hide (l05Value_any x w)
      have hx := hide (kinds_at? hk (show i < ns[k].kids.length by omega))
      obtain ⟨x, ex⟩ : ∃ x, x = kidKind ns k ns[k].kids[i] := ⟨_, rfl⟩
      rw [← ex] at hx
      simp only [← ex] at C1
      clear ex
      have HN2 := hide (HN.out.stays HB2.out)
      cases hv : valueQ x with
      | true => 
        have C2 := C2 x
        rw [hv] at C2
        go_wp2_with (first | (go_at_call 95; refine (unhide (C1 _ HN2.out)).mono ?_; rintro e w2 ⟨rfl, hb2⟩; have HB3 := hide hb2; clear hb2) | (go_at_call 73; refine (unhide (C2 _)).mono ?_; rintro e w3 ⟨rfl, rfl⟩))
        go_roundw
        case rel => exact ⟨i + 1, by omega, by go_num, HB2.out.trans (HB3.out.mono HB2.out.size), fun j y hj hy => by
          rcases Nat.lt_succ_iff_lt_or_eq.1 hj with hj | hj
          · exact HA.out j y hj hy
          · subst hj; rw [hx.out] at hy; cases hy; exact hv⟩
        case measure => simp [intOf]; omega
      | false =>
        have C2 := C2 x
        rw [hv] at C2
        go_wp2_with (first | (go_at_call 95; refine (unhide (C1 _ HN2.out)).mono ?_; rintro e w2 ⟨rfl, hb2⟩; have HB3 := hide hb2; clear hb2) | (go_at_call 73; refine (unhide (C2 _)).mono ?_; rintro e w3 ⟨rfl, rfl⟩))
        go_ret
        exact ⟨by rw [all_take_no hx.out hlt hv]; rfl, HB.out.trans ((HB2.out.trans (HB3.out.mono HB2.out.size)).mono HB.out.size)⟩
    · have hlt' : ¬ (i : Int) < (n : Int) := by omega
      go_wp2
      go_ret
      exact ⟨by rw [all_take_yes (fun j x hj hx => HA.out j x (by omega) hx)]; rfl, HB.out.trans (HB2.out.mono HB.out.size)⟩
end Go.Proofs.YtdfahpachbhglaaGreatDoor

namespace Go.Proofs.YtdfahpachbhglaaGreatDoor
open Go.RowKit

def IntC (_base : Nat) (_w : World) (cs : List Value) (x : Int) : Prop := cs = [.int .i64 x]
def StrC (_base : Nat) (_w : World) (cs : List Value) (x : ByteArray) : Prop := cs = [.string x]
instance : Told IntC := ⟨fun h _ => h, fun h _ => h⟩
instance : Told StrC := ⟨fun h _ => h, fun h _ => h⟩
theorem ObjsIn.ints {base : Nat} {w : World} {v : Value} {xs : List Int} (h : ObjsIn IntC 1 base w v xs) : IntsIn base w v xs := by
  obtain ⟨css, ⟨ao, c, rfl, h0, hc⟩, hl, hr⟩ := h
  refine ⟨ao, c, by rw [hl, List.length_map], ⟨by rw [List.length_map]; omega, fun h1 => h0.2 (by rw [List.length_map] at h1; omega)⟩, fun j u hj => ?_⟩
  rw [List.getElem?_map] at hj
  obtain ⟨x, hx, rfl⟩ := Option.map_eq_some_iff.1 hj
  have hj2 := (List.getElem?_eq_some_iff.1 hx).1
  have hj3 : j < css.length := by omega
  obtain ⟨_, a, rfl, h1, h2, h3⟩ := hc j css[j] (List.getElem?_eq_getElem hj3)
  have e := hr j css[j] x (List.getElem?_eq_getElem hj3) hx
  rw [e] at h3
  exact ⟨a, rfl, h1, h2, by have := h3 0 _ rfl; simpa using this⟩
theorem ObjsIn.strs {base : Nat} {w : World} {v : Value} {xs : List ByteArray} (h : ObjsIn StrC 1 base w v xs) : StrsIn base w v xs := by
  obtain ⟨css, ⟨ao, c, rfl, h0, hc⟩, hl, hr⟩ := h
  refine ⟨ao, c, by rw [hl, List.length_map], ⟨by rw [List.length_map]; omega, fun h1 => h0.2 (by rw [List.length_map] at h1; omega)⟩, fun j u hj => ?_⟩
  rw [List.getElem?_map] at hj
  obtain ⟨x, hx, rfl⟩ := Option.map_eq_some_iff.1 hj
  have hj2 := (List.getElem?_eq_some_iff.1 hx).1
  have hj3 : j < css.length := by omega
  obtain ⟨_, a, rfl, h1, h2, h3⟩ := hc j css[j] (List.getElem?_eq_getElem hj3)
  have e := hr j css[j] x (List.getElem?_eq_getElem hj3) hx
  rw [e] at h3
  exact ⟨a, rfl, h1, h2, by have := h3 0 _ rfl; simpa using this⟩

def FillR {α : Type} (R : Nat → World → List Value → α → Prop) (s : Nat) (e : TypeId) (w : World) (xs : List α) (iv : Value) (wr : World) : Prop :=
  ∃ k : Nat, k ≤ xs.length ∧ iv = .int .i64 k ∧ Hid (Filled R s e w xs k wr)

set_option maxRecDepth 100000 in
set_option maxHeartbeats 1000000 in
theorem toIntS_any (v : Value) (xs : List Int) (w : World) (h : IntsAt w v xs) (hlen : xs.length ≤ 1048576) :
    Calls Tryz.prog 55 #[v] w fun e w' => ∃ v', e = .returned v' ∧ IntsIn w.heap.size w' v' xs ∧ Below w.heap.size w w' := by
  obtain ⟨i0, hi, hz0, hz1, hz2⟩ := info_parts (Tryz.infoInt)
  obtain ⟨wm, hmk, hown, hgr⟩ := run_make_full (P := Tryz.prog) w w.heap.size 67 3 i0 (.int .i64 0) 1 Tryz.underlying67 hi hz0 hz1 .i64 .i64 xs.length (by rw [hz2]; omega) (by unfold maxLen; omega) (Nat.le_refl _)
  have HS : Hid (Filled IntC 1 3 w xs 0 wm) := Filled.start IntC xs [.int .i64 0] (by decide) hown hgr
  have HC := hide h
  obtain ⟨ao, c, rfl, _⟩ := h
  clear hown hgr hi hz0 hz1 hz2
  obtain ⟨n, en⟩ : ∃ n, xs.length = n := ⟨_, rfl⟩
  have EN := hide en
  rw [en] at hmk hlen HC ⊢
  clear en
  go_enter Tryz.func55, Tryz.ntmps55
  go_wp2
  go_loopw [4] (FillR IntC 1 3 w xs) (fun iv _ => n - (intOf iv).toNat)
  case atStart => exact ⟨0, Nat.zero_le _, rfl, HS.out⟩
  case round =>
    obtain ⟨k, hk, rfl, HF⟩ := hrel
    rw [EN.out] at hk
    by_cases hlt : k < n
    · have hlt' : (k : Int) < (n : Int) := by omega
      have hi0 : (0 : Int) ≤ (k : Int) := by omega
      have hkx : k < xs.length := by rw [EN.out]; exact hlt
      obtain ⟨ao', c', e1, hc1⟩ := HC.out.stays HF.out.below
      injection e1 with e2 e3 e4
      subst e2
      obtain ⟨a, rfl, _, hx⟩ := hc1 k hkx
      obtain ⟨⟨u0, y0⟩, z0⟩ := HF.out.there hkx 0 (by omega)
      have HN := hide (HF.out.next hkx (y := [.int .i64 xs[k]]) rfl rfl)
      obtain ⟨x, ex⟩ : ∃ x, xs[k] = x := ⟨_, rfl⟩
      rw [ex] at hx HN
      rw [Nat.mul_one, Nat.add_zero] at y0 z0
      clear ex hc1 e3 e4
      go_wp2
      go_roundw
      case rel => exact ⟨k + 1, by rw [EN.out]; omega, by go_num, by have := HN.out; rwa [Nat.mul_one] at this⟩
      case measure => simp [intOf]; omega
    · have hlt' : ¬ (k : Int) < (n : Int) := by omega
      go_wp2
      go_ret
      exact ⟨_, rfl, by
        have := (HF.out.done (by rw [EN.out]; omega)).ints
        rwa [EN.out] at this, HF.out.below⟩
theorem Tryz.infoStr : (Tryz.prog.info? 9).map (fun i => (i.zero, i.size, i.bytes)) = some (some (.string ⟨#[]⟩), 1, 16) := by kernel_rfl
set_option maxRecDepth 100000 in
set_option maxHeartbeats 1000000 in
theorem toStringS_any (v : Value) (xs : List ByteArray) (w : World) (h : StrsAt w v xs) (hlen : xs.length ≤ 1048576) :
    Calls Tryz.prog 56 #[v] w fun e w' => ∃ v', e = .returned v' ∧ StrsIn w.heap.size w' v' xs ∧ Below w.heap.size w w' := by
  obtain ⟨i0, hi, hz0, hz1, hz2⟩ := info_parts (Tryz.infoStr)
  obtain ⟨wm, hmk, hown, hgr⟩ := run_make_full (P := Tryz.prog) w w.heap.size 42 9 i0 (.string ⟨#[]⟩) 1 Tryz.underlying42 hi hz0 hz1 .i64 .i64 xs.length (by rw [hz2]; omega) (by unfold maxLen; omega) (Nat.le_refl _)
  have HS : Hid (Filled StrC 1 9 w xs 0 wm) := Filled.start StrC xs [.string ⟨#[]⟩] (by decide) hown hgr
  have HC := hide h
  obtain ⟨ao, c, rfl, _⟩ := h
  clear hown hgr hi hz0 hz1 hz2
  obtain ⟨n, en⟩ : ∃ n, xs.length = n := ⟨_, rfl⟩
  have EN := hide en
  rw [en] at hmk hlen HC ⊢
  clear en
  go_enter Tryz.func56, Tryz.ntmps56
  go_wp2
  go_loopw [4] (FillR StrC 1 9 w xs) (fun iv _ => n - (intOf iv).toNat)
  case atStart => exact ⟨0, Nat.zero_le _, rfl, HS.out⟩
  case round =>
    obtain ⟨k, hk, rfl, HF⟩ := hrel
    rw [EN.out] at hk
    by_cases hlt : k < n
    · have hlt' : (k : Int) < (n : Int) := by omega
      have hi0 : (0 : Int) ≤ (k : Int) := by omega
      have hkx : k < xs.length := by rw [EN.out]; exact hlt
      obtain ⟨ao', c', e1, hc1⟩ := HC.out.stays HF.out.below
      injection e1 with e2 e3 e4
      subst e2
      obtain ⟨a, rfl, _, hx⟩ := hc1 k hkx
      obtain ⟨⟨u0, y0⟩, z0⟩ := HF.out.there hkx 0 (by omega)
      have HN := hide (HF.out.next hkx (y := [.string xs[k]]) rfl rfl)
      obtain ⟨x, ex⟩ : ∃ x, xs[k] = x := ⟨_, rfl⟩
      rw [ex] at hx HN
      rw [Nat.mul_one, Nat.add_zero] at y0 z0
      clear ex hc1 e3 e4
      go_wp2
      go_roundw
      case rel => exact ⟨k + 1, by rw [EN.out]; omega, by go_num, by have := HN.out; rwa [Nat.mul_one] at this⟩
      case measure => simp [intOf]; omega
    · have hlt' : ¬ (k : Int) < (n : Int) := by omega
      go_wp2
      go_ret
      exact ⟨_, rfl, by
        have := (HF.out.done (by rw [EN.out]; omega)).strs
        rwa [EN.out] at this, HF.out.below⟩

set_option maxRecDepth 100000 in
set_option maxHeartbeats 1000000 in
theorem toNode_any (x : Nd) (kv : Value) (w : World) (hK : IntsAt w kv x.kids) (hl : x.kids.length ≤ 1048576) :
    Calls Tryz.prog 34 #[.agg #[.int .i64 x.kind, .int .i64 x.num, .string x.name, .string x.more, .string x.into, kv]] w fun e w' => ∃ o n c, e = .returned (.agg #[.int .i64 x.kind, .int .i64 x.num, .string x.name, .string x.more, .string x.into, .slice o n c]) ∧ NodeC w.heap.size w' [.int .i64 x.kind, .int .i64 x.num, .string x.name, .string x.more, .string x.into, .slice o n c] x ∧ Below w.heap.size w w' := by
  have C := fun w h => hide (toIntS_any kv x.kids w h hl)
  have HB0 : Hid (Below w.heap.size w (((w.alloc (.cells #[.int .i64 x.kind, .int .i64 x.num, .string x.name, .string x.more, .string x.into, kv] 69)).alloc (.cells #[.int .i64 0, .int .i64 0, .string ⟨#[]⟩, .string ⟨#[]⟩, .string ⟨#[]⟩, .slice none 0 0] 78)).alloc (.cells #[.int .i64 x.kind, .int .i64 x.num, .string x.name, .string x.more, .string x.into, .slice none 0 0] 78))) := by show Below _ _ _; go_grown
  have HK : Hid (IntsAt (((w.alloc (.cells #[.int .i64 x.kind, .int .i64 x.num, .string x.name, .string x.more, .string x.into, kv] 69)).alloc (.cells #[.int .i64 0, .int .i64 0, .string ⟨#[]⟩, .string ⟨#[]⟩, .string ⟨#[]⟩, .slice none 0 0] 78)).alloc (.cells #[.int .i64 x.kind, .int .i64 x.num, .string x.name, .string x.more, .string x.into, .slice none 0 0] 78)) kv x.kids) := hK.stays HB0.out
  have HQ1 : Hid (Box (((w.alloc (.cells #[.int .i64 x.kind, .int .i64 x.num, .string x.name, .string x.more, .string x.into, kv] 69)).alloc (.cells #[.int .i64 0, .int .i64 0, .string ⟨#[]⟩, .string ⟨#[]⟩, .string ⟨#[]⟩, .slice none 0 0] 78)).alloc (.cells #[.int .i64 x.kind, .int .i64 x.num, .string x.name, .string x.more, .string x.into, .slice none 0 0] 78)) (w.heap.size + 1) #[.int .i64 0, .int .i64 0, .string ⟨#[]⟩, .string ⟨#[]⟩, .string ⟨#[]⟩, .slice none 0 0] 78) := (Box.madeAt (by simp) _ _).stays ((Below.refl _ _).alloc (Nat.le_refl _) _)
  have HQ2 : Hid (Box (((w.alloc (.cells #[.int .i64 x.kind, .int .i64 x.num, .string x.name, .string x.more, .string x.into, kv] 69)).alloc (.cells #[.int .i64 0, .int .i64 0, .string ⟨#[]⟩, .string ⟨#[]⟩, .string ⟨#[]⟩, .slice none 0 0] 78)).alloc (.cells #[.int .i64 x.kind, .int .i64 x.num, .string x.name, .string x.more, .string x.into, .slice none 0 0] 78)) (w.heap.size + 1 + 1) #[.int .i64 x.kind, .int .i64 x.num, .string x.name, .string x.more, .string x.into, .slice none 0 0] 78) := Box.madeAt (by simp) _ _
  have HZ : Hid ((((w.alloc (.cells #[.int .i64 x.kind, .int .i64 x.num, .string x.name, .string x.more, .string x.into, kv] 69)).alloc (.cells #[.int .i64 0, .int .i64 0, .string ⟨#[]⟩, .string ⟨#[]⟩, .string ⟨#[]⟩, .slice none 0 0] 78)).alloc (.cells #[.int .i64 x.kind, .int .i64 x.num, .string x.name, .string x.more, .string x.into, .slice none 0 0] 78)).heap.size = w.heap.size + 3) := by show _ = _; simp
  obtain ⟨ao, c, rfl, _⟩ := hK
  clear hl
  go_enter Tryz.func34, Tryz.ntmps34
  go_wp2_with (go_at_call 55; refine (unhide (C _ HK.out)).mono ?_; rintro e w2 ⟨v2, rfl, hv2, hb2⟩; have HB := hide (HB0.out.trans (hb2.mono HB0.out.size)); have HW : Hid (IntsIn (w.heap.size + 3) w2 v2 x.kids) := hv2.mono (Nat.le_of_eq HZ.out.symm); obtain ⟨o2, c2, rfl, hr2, hc2⟩ := hv2; have q1 := HQ1.out.stays hb2; have q2 := HQ2.out.stays hb2; have Q1 := hide q1; have Q2 := hide q2; have f0 := Lib.cell_of_heap q1 0; have f1 := Lib.cell_of_heap q1 1; have f2 := Lib.cell_of_heap q1 2; have f3 := Lib.cell_of_heap q1 3; have f4 := Lib.cell_of_heap q1 4; have f5 := Lib.cell_of_heap q1 5; have z0 := Lib.frozen_of_heap q1 0; have z1 := Lib.frozen_of_heap q1 1; have z2 := Lib.frozen_of_heap q1 2; have z3 := Lib.frozen_of_heap q1 3; have z4 := Lib.frozen_of_heap q1 4; have z5 := Lib.frozen_of_heap q1 5; have g0 := Lib.cell_of_heap q2 0; have g1 := Lib.cell_of_heap q2 1; have g2 := Lib.cell_of_heap q2 2; have g3 := Lib.cell_of_heap q2 3; have g4 := Lib.cell_of_heap q2 4; have g5 := Lib.cell_of_heap q2 5; have y5 := Lib.frozen_of_heap q2 5; simp at f0 f1 f2 f3 f4 f5 g0 g1 g2 g3 g4 g5; clear hb2 hc2 hr2 q1 q2)
  refine box_ret (g := w.heap.size + 1) (t := 78) (cs := #[.int .i64 x.kind, .int .i64 x.num, .string x.name, .string x.more, .string x.into, .slice o2 x.kids.length c2]) rfl rfl ?_ _ Tryz.underlying78 rfl (by kernel_rfl) rfl ?_
  · simpa using ((((((Q1.out.other ⟨w.heap.size + 1 + 1, 5, none⟩ (.slice o2 x.kids.length c2) (by show w.heap.size + 1 ≠ w.heap.size + 1 + 1; omega)).set 0 _).set 1 _).set 2 _).set 3 _).set 4 _).set 5 _
  · refine ⟨_, _, _, rfl, ⟨_, rfl, ?_⟩, ?_⟩
    · refine CellsIn.mono (base := w.heap.size + 3) ?_ (by omega)
      iterate 7 refine CellsIn.kept ?_ (KeptFrom.setCell (by omega) _ _ _)
      have := HW.out
      rwa [List.length_map] at this
    · iterate 7 refine Below.setCell ?_ (by dsimp only; omega) _
      exact HB.out
end Go.Proofs.YtdfahpachbhglaaGreatDoor

namespace Go.Proofs.YtdfahpachbhglaaGreatDoor
open Go.RowKit

def blockQ (x : Int) : Bool := decide (x = 20)
def BlocksR (W1 : World) (l : List Int) (n m : Nat) (iv : Value) (wr : World) : Prop :=
  ∃ i : Nat, n ≤ i ∧ i ≤ m ∧ iv = .int .i64 i ∧ Hid (Below W1.heap.size W1 wr) ∧ Hid (∀ j x, n ≤ j → j < i → l[j]? = some x → blockQ x = true)

theorem NdsAt.node {w : World} {nv : Value} {ns : List Nd} (h : NdsAt w nv ns) (k : Nat) (hk : k < ns.length) :
    ∃ a c p kv, nv = .slice (some a) ns.length c ∧ a.add (k * 6) = p ∧ p.block < w.heap.size ∧ NdCell w p ns[k] kv := by
  obtain ⟨ao, c, rfl, hc⟩ := h
  obtain ⟨a, kv, rfl, ha, hx⟩ := hc k hk
  exact ⟨a, c, a.add (k * 6), kv, rfl, rfl, by rw [block_add]; exact ha, hx⟩

set_option maxHeartbeats 1000000 in
theorem l05Blocks_any (nv mv pv : Value) (ns : List Nd) (k n : Nat) (w : World) (hN : NdsAt w nv ns) (hk : k < ns.length) (hn : n ≤ ns[k].kids.length) (hl : ns.length ≤ 1048576) (hkl : ns[k].kids.length ≤ 1048576) :
    Calls Tryz.prog 94 #[.agg #[nv, mv, pv], .int .i64 (k : Int), .int .i64 (n : Int)] w fun e w' => e = .returned (.bool (((kinds ns k).drop n).all blockQ)) ∧ Below w.heap.size w w' := by
  have hb1 : Below w.heap.size w (w.alloc (.cells #[nv, mv, pv] 34)) := (Below.refl _ _).alloc (Nat.le_refl _) _
  have HN := hide (hN.stays hb1)
  have HX := hide (Boxed.made w nv mv pv 34)
  have HB := hide hb1
  clear hN hb1
  go_enter Tryz.func94, Tryz.ntmps94
  go_wp2
  obtain ⟨W1, hW⟩ : ∃ W1, w.alloc (.cells #[nv, mv, pv] 34) = W1 := ⟨_, rfl⟩
  rw [hW] at HN HX HB ⊢
  clear hW
  have hi0 : (0 : Int) ≤ (k : Int) := by omega
  have hi1 : (k : Int) < (ns.length : Int) := by omega
  obtain ⟨m, hm⟩ : ∃ m, ns[k].kids.length = m := ⟨_, rfl⟩
  have HM := hide hm
  rw [hm] at hn hkl
  go_loopw [7] (BlocksR W1 (kinds ns k) n m) (fun iv _ => m - (intOf iv).toNat)
  case atStart => exact ⟨n, by omega, by omega, rfl, Below.refl _ _, fun j x h1 h2 => absurd h2 (by omega)⟩
  case round =>
    obtain ⟨i, hni, hi, rfl, HB2, HA⟩ := hrel
    obtain ⟨c0, c1, c2, _⟩ := HX.out.stays HB2.out
    have HN2 := hide (HN.out.stays HB2.out)
    obtain ⟨a, c, p, kv, rfl, hpa, hpb, hcell⟩ := HN2.out.node k hk
    have d5 := hcell.c5
    obtain ⟨bo, cb, rfl, _⟩ := hcell.kids
    rw [hm] at d5
    clear hcell hm
    by_cases hlt : i < m
    · have hlt' : (i : Int) < (m : Int) := by omega
      have hik : i < ns[k].kids.length := by rw [HM.out]; exact hlt
      have C1 := fun w (h : NdsAt w (.slice (some a) ns.length c) ns) => hide (l05Kid_any (.slice (some a) ns.length c) mv pv ns k i w h hk hik hl)
      have hx := hide (kinds_at? hk hik)
      obtain ⟨x, ex⟩ : ∃ x, x = kidKind ns k ns[k].kids[i] := ⟨_, rfl⟩
      rw [← ex] at hx
      simp only [← ex] at C1
      clear ex
      by_cases hv : x = 20
      · have HV : Hid (blockQ x = true) := by show _ = _; simp [blockQ, hv]
        go_wp2_with (go_at_call 95; refine (unhide (C1 _ HN2.out)).mono ?_; rintro e w2 ⟨rfl, hb2⟩; have HB3 := hide hb2; clear hb2)
        go_roundw
        case rel => exact ⟨i + 1, by omega, by omega, by go_num, HB2.out.trans (HB3.out.mono HB2.out.size), fun j y h1 hj hy => by
          rcases Nat.lt_succ_iff_lt_or_eq.1 hj with hj | hj
          · exact HA.out j y h1 hj hy
          · subst hj; rw [hx.out] at hy; cases hy; exact HV.out⟩
        case measure => simp [intOf]; omega
      · have HV : Hid (blockQ x = false) := by show _ = _; simp [blockQ, hv]
        go_wp2_with (go_at_call 95; refine (unhide (C1 _ HN2.out)).mono ?_; rintro e w2 ⟨rfl, hb2⟩; have HB3 := hide hb2; clear hb2)
        go_ret
        exact ⟨by rw [all_drop_no hx.out hni HV.out]; rfl, HB.out.trans ((HB2.out.trans (HB3.out.mono HB2.out.size)).mono HB.out.size)⟩
    · have hlt' : ¬ (i : Int) < (m : Int) := by omega
      go_wp2
      go_ret
      exact ⟨by rw [all_drop_yes (fun j x h1 hx => HA.out j x h1 (by have := (List.getElem?_eq_some_iff.1 hx).1; rw [kinds_len hk, HM.out] at this; omega) hx)]; rfl, HB.out.trans (HB2.out.mono HB.out.size)⟩

/-- Are a node's kids what its kind wants? -/
def kidsB (kd : Int) (l : List Int) : Bool :=
  if kd = 1 ∨ kd = 2 ∨ kd = 16 ∨ kd = 17 ∨ kd = 18 ∨ kd = 19 then decide (l.length = 0)
  else if kd = 3 then decide (l.length = 2) && (l.take 2).all valueQ
  else if kd = 4 ∨ kd = 5 ∨ kd = 11 ∨ kd = 14 ∨ kd = 15 then decide (l.length = 1) && (l.take 1).all valueQ
  else if kd = 12 then decide (l.length = 2 ∨ l.length = 3) && (l.take 1).all valueQ && (l.drop 1).all blockQ
  else if kd = 13 then decide (l.length = 2) && (l.take 1).all valueQ && (l.drop 1).all blockQ
  else l.all stmtQ && inZ 1 12 l.length
end Go.Proofs.YtdfahpachbhglaaGreatDoor
