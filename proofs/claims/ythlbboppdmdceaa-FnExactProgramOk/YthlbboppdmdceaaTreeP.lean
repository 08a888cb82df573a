/-
  Trees as values: nodes of six cells, rows of numbers and of nodes that can be read.
-/
import Derived.Test.YthlbboppdmdceaaAid
import Derived.DataElems
import Derived.Test.YthlbboppdmdceaaChecked
import Derived.BigQuiet
import Derived.WalkSmall
import Derived.Deep.RegionHeld3
namespace Go.Proofs.Ythlbboppdmdceaa
open Go.RowKit

/-- A row of numbers that can be read. -/
def IntsAt (w : World) (v : Value) (xs : List Int) : Prop :=
  ∃ ao c, v = .slice ao xs.length c ∧ ∀ j (h : j < xs.length), ∃ a, ao = some a ∧ a.block < w.heap.size ∧ w.cell? (a.add j) = some (.int .i64 xs[j])

/-- A node. -/
structure Nd where
  kind : Int
  num : Int
  name : ByteArray
  more : ByteArray
  into : ByteArray
  kids : List Int
instance : Inhabited Nd := ⟨⟨0, 0, ByteArray.empty, ByteArray.empty, ByteArray.empty, []⟩⟩

/-- A node's cells, in the words of a walk; its kids lie behind a row. -/
structure NdCell (w : World) (a : Addr) (x : Nd) (kv : Value) : Prop where
  c0 : w.cell? a = some (.int .i64 x.kind)
  c1 : w.cell? { block := a.block, off := a.off + 1 } = some (.int .i64 x.num)
  c2 : w.cell? { block := a.block, off := a.off + 2 } = some (.string x.name)
  c3 : w.cell? { block := a.block, off := a.off + 3 } = some (.string x.more)
  c4 : w.cell? { block := a.block, off := a.off + 4 } = some (.string x.into)
  c5 : w.cell? { block := a.block, off := a.off + 5 } = some kv
  kids : IntsAt w kv x.kids

/-- A row of nodes that can be read. -/
def NdsAt (w : World) (v : Value) (xs : List Nd) : Prop :=
  ∃ ao c, v = .slice ao xs.length c ∧ ∀ j (h : j < xs.length), ∃ a kv, ao = some a ∧ a.block < w.heap.size ∧ NdCell w (a.add (j * 6)) xs[j] kv

theorem block_add (a : Addr) (n : Nat) : (a.add n).block = a.block := by simp only [Addr.add]; split <;> rfl

theorem IntsAt.stays {w w' : World} {v : Value} {xs : List Int} (h : IntsAt w v xs) (hb : Below w.heap.size w w') : IntsAt w' v xs := by
  obtain ⟨ao, c, rfl, hc⟩ := h
  refine ⟨ao, c, rfl, fun j hj => ?_⟩
  obtain ⟨a, rfl, ha, hx⟩ := hc j hj
  exact ⟨a, rfl, Nat.lt_of_lt_of_le ha hb.size, (hb.cell (by rw [block_add]; exact ha)).trans hx⟩
theorem NdCell.stays {w w' : World} {a : Addr} {x : Nd} {kv : Value} (h : NdCell w a x kv) (hb : Below w.heap.size w w') (ha : a.block < w.heap.size) : NdCell w' a x kv :=
  ⟨(hb.cell ha).trans h.c0, (hb.cell (p := { block := a.block, off := a.off + 1 }) ha).trans h.c1, (hb.cell (p := { block := a.block, off := a.off + 2 }) ha).trans h.c2, (hb.cell (p := { block := a.block, off := a.off + 3 }) ha).trans h.c3,
    (hb.cell (p := { block := a.block, off := a.off + 4 }) ha).trans h.c4, (hb.cell (p := { block := a.block, off := a.off + 5 }) ha).trans h.c5, h.kids.stays hb⟩
theorem NdsAt.stays {w w' : World} {v : Value} {xs : List Nd} (h : NdsAt w v xs) (hb : Below w.heap.size w w') : NdsAt w' v xs := by
  obtain ⟨ao, c, rfl, hc⟩ := h
  refine ⟨ao, c, rfl, fun j hj => ?_⟩
  obtain ⟨a, kv, rfl, ha, hx⟩ := hc j hj
  exact ⟨a, kv, rfl, Nat.lt_of_lt_of_le ha hb.size, hx.stays hb (by rw [block_add]; exact ha)⟩

/-- A number between two. -/
def inZ (lo hi x : Int) : Bool := decide (lo ≤ x ∧ x ≤ hi)
theorem inZ_yes {lo hi x : Int} : inZ lo hi x = true ↔ lo ≤ x ∧ x ≤ hi := by simp [inZ]
theorem inZ_no {lo hi x : Int} : inZ lo hi x = false ↔ ¬ (lo ≤ x ∧ x ≤ hi) := by rw [inZ, decide_eq_false_iff_not]
/-- How a node's kind is told of a kid. -/
def kidKind (ns : List Nd) (k : Nat) (x : Int) : Int := if inZ 0 ((k : Int) - 1) x then (ns.getD x.toNat default).kind else 0
def valueQ (k : Int) : Bool := inZ 1 5 k
def stmtQ (k : Int) : Bool := inZ 11 19 k
end Go.Proofs.Ythlbboppdmdceaa

namespace Go.Proofs.Ythlbboppdmdceaa
open Go.RowKit

theorem l01In_gen (x lo hi : Int) (w : World) : Calls Try.prog 15 #[.int .i64 x, .int .i64 lo, .int .i64 hi] w fun e w' => e = .returned (.bool (inZ lo hi x)) ∧ w' = w := by
  by_cases h1 : lo ≤ x
  · have e : inZ lo hi x = decide (x ≤ hi) := by simp [inZ, h1]
    rw [e]
    go_enter Try.func15, Try.ntmps15
    go_wp2
    go_ret
    exact ⟨rfl, rfl⟩
  · have e : inZ lo hi x = false := by simp [inZ, h1]
    rw [e]
    go_enter Try.func15, Try.ntmps15
    go_wp2
    go_ret
    exact ⟨rfl, rfl⟩

theorem l05Value_any (k : Int) (w : World) : Calls Try.prog 16 #[.int .i64 k] w fun e w' => e = .returned (.bool (valueQ k)) ∧ w' = w := by
  have C := fun w => hide (l01In_gen k 1 5 w)
  go_enter Try.func16, Try.ntmps16
  go_wp2_with (go_at_call 15; refine (unhide (C _)).mono ?_; rintro e w1 ⟨rfl, rfl⟩)
  go_ret
  exact ⟨rfl, rfl⟩
theorem l05Statement_any (k : Int) (w : World) : Calls Try.prog 17 #[.int .i64 k] w fun e w' => e = .returned (.bool (stmtQ k)) ∧ w' = w := by
  have C := fun w => hide (l01In_gen k 11 19 w)
  go_enter Try.func17, Try.ntmps17
  go_wp2_with (go_at_call 15; refine (unhide (C _)).mono ?_; rintro e w1 ⟨rfl, rfl⟩)
  go_ret
  exact ⟨rfl, rfl⟩

set_option maxHeartbeats 1000000 in
theorem l05Kid_any (nv mv pv : Value) (ns : List Nd) (k i : Nat) (w : World) (hN : NdsAt w nv ns) (hk : k < ns.length) (hi : i < ns[k].kids.length) (hl : ns.length ≤ 1048576) :
    Calls Try.prog 44 #[.agg #[nv, mv, pv], .int .i64 (k : Int), .int .i64 (i : Int)] w fun e w' => e = .returned (.int .i64 (kidKind ns k ns[k].kids[i])) ∧ Below w.heap.size w w' := by
  have hb1 : Below w.heap.size w (w.alloc (.cells #[nv, mv, pv] 33)) := (Below.refl _ _).alloc (Nat.le_refl _) _
  have hN1 := hN.stays hb1
  obtain ⟨ao, c, rfl, hc⟩ := hN1
  obtain ⟨a, kv, rfl, ha, hx⟩ := hc k hk
  obtain ⟨p, hpa⟩ : ∃ p, a.add (k * 6) = p := ⟨_, rfl⟩
  rw [hpa] at hx
  have c5 := hx.c5
  obtain ⟨bo, cb, rfl, hkc⟩ := hx.kids
  obtain ⟨b, rfl, hbb, hb5⟩ := hkc i hi
  obtain ⟨x, hxe⟩ : ∃ x, x = ns[k].kids[i] := ⟨_, rfl⟩
  rw [← hxe] at hb5 ⊢
  have C := fun w => hide (l01In_gen x 0 ((k : Int) - 1) w)
  have hi0 : (0 : Int) ≤ (k : Int) := by omega
  have hi1 : (k : Int) < (ns.length : Int) := by omega
  have hj0 : (0 : Int) ≤ (i : Int) := by omega
  have hj1 : (i : Int) < (ns[k].kids.length : Int) := by omega
  obtain ⟨n, hn⟩ : ∃ n, n = ns.length := ⟨_, rfl⟩
  obtain ⟨m, hmm⟩ : ∃ m, m = ns[k].kids.length := ⟨_, rfl⟩
  cases hin : inZ 0 ((k : Int) - 1) x with
  | true =>
    obtain ⟨hx0, hx1⟩ := inZ_yes.1 hin
    obtain ⟨y, hy⟩ : ∃ y : Nat, x = (y : Int) := ⟨x.toNat, by omega⟩
    have hyn : y < ns.length := by omega
    obtain ⟨a2, kv2, e2, ha2, hx2⟩ := hc y hyn
    have e3 : a2 = a := (Option.some.inj e2).symm
    subst e3
    obtain ⟨p2, hpa2⟩ : ∃ p2, a2.add (y * 6) = p2 := ⟨_, rfl⟩
    rw [hpa2] at hx2
    have d0 := hx2.c0
    have hkk : kidKind ns k x = ns[y].kind := by
      rw [kidKind, hin, if_pos rfl, hy]
      simp [List.getD_eq_getElem?_getD, List.getElem?_eq_getElem hyn]
    rw [hkk]
    rw [hin] at C
    subst hy
    have hy0 : (0 : Int) ≤ (y : Int) := by omega
    have hy1 : (y : Int) < (ns.length : Int) := by omega
    have HB := hide hb1
    clear hc hkc hx hx2 hin hkk hN hb1 hxe
    go_enter Try.func44, Try.ntmps44
    go_wp2_with (go_at_call 15; refine (unhide (C _)).mono ?_; rintro e w1 ⟨rfl, rfl⟩)
    go_ret
    exact ⟨rfl, HB.out⟩
  | false =>
    have hkk : kidKind ns k x = 0 := by rw [kidKind, hin]; rfl
    rw [hkk]
    rw [hin] at C
    have HB := hide hb1
    clear hc hkc hx hin hkk hN hb1 hxe
    go_enter Try.func44, Try.ntmps44
    go_wp2_with (go_at_call 15; refine (unhide (C _)).mono ?_; rintro e w1 ⟨rfl, rfl⟩)
    go_ret
    exact ⟨rfl, HB.out⟩
end Go.Proofs.Ythlbboppdmdceaa

namespace Go.Proofs.Ythlbboppdmdceaa
open Go.RowKit

/-- The kinds of a node's kids. -/
def kinds (ns : List Nd) (k : Nat) : List Int := (ns.getD k default).kids.map (kidKind ns k)
theorem getD_at {ns : List Nd} {k : Nat} (hk : k < ns.length) : ns.getD k default = ns[k] := by simp [List.getD_eq_getElem?_getD, List.getElem?_eq_getElem hk]
theorem kinds_len {ns : List Nd} {k : Nat} (hk : k < ns.length) : (kinds ns k).length = ns[k].kids.length := by rw [kinds, getD_at hk, List.length_map]
theorem kinds_at {ns : List Nd} {k i : Nat} (hk : k < ns.length) (hi : i < ns[k].kids.length) : (kinds ns k)[i]'(by rw [kinds_len hk]; exact hi) = kidKind ns k ns[k].kids[i] := by
  have e : kinds ns k = ns[k].kids.map (kidKind ns k) := by rw [kinds, getD_at hk]
  simp [e]
theorem kinds_at? {ns : List Nd} {k i : Nat} (hk : k < ns.length) (hi : i < ns[k].kids.length) : (kinds ns k)[i]? = some (kidKind ns k ns[k].kids[i]) := by
  rw [List.getElem?_eq_getElem (by rw [kinds_len hk]; exact hi), kinds_at hk hi]

theorem all_take_no {α : Type} {q : α → Bool} {l : List α} {n i : Nat} {x : α} (h : l[i]? = some x) (hi : i < n) (hq : q x = false) : (l.take n).all q = false := by
  rw [List.all_eq_false]
  refine ⟨x, ?_, by simp [hq]⟩
  obtain ⟨hl, e⟩ := List.getElem?_eq_some_iff.1 h
  exact List.mem_take_iff_getElem.2 ⟨i, by omega, e⟩
theorem all_take_yes {α : Type} {q : α → Bool} {l : List α} {n : Nat} (h : ∀ j x, j < n → l[j]? = some x → q x = true) : (l.take n).all q = true := by
  rw [List.all_eq_true]
  intro x hx
  obtain ⟨i, hi, e⟩ := List.mem_take_iff_getElem.1 hx
  exact h i x (by omega) (by rw [List.getElem?_eq_getElem (by omega), e])
theorem all_drop_no {α : Type} {q : α → Bool} {l : List α} {n i : Nat} {x : α} (h : l[i]? = some x) (hi : n ≤ i) (hq : q x = false) : (l.drop n).all q = false := by
  rw [List.all_eq_false]
  refine ⟨x, ?_, by simp [hq]⟩
  exact List.mem_iff_getElem?.2 ⟨i - n, by rw [List.getElem?_drop, show n + (i - n) = i by omega]; exact h⟩
theorem all_drop_yes {α : Type} {q : α → Bool} {l : List α} {n : Nat} (h : ∀ j x, n ≤ j → l[j]? = some x → q x = true) : (l.drop n).all q = true := by
  rw [List.all_eq_true]
  intro x hx
  obtain ⟨i, hi⟩ := List.mem_iff_getElem?.1 hx
  rw [List.getElem?_drop] at hi
  exact h (n + i) x (by omega) hi

/-- A program in its box. -/
structure Boxed (B : Nat) (w : World) (nv mv pv : Value) : Prop where
  c0 : w.cell? ⟨B, 0, none⟩ = some nv
  c1 : w.cell? ⟨B, 1, none⟩ = some mv
  c2 : w.cell? ⟨B, 2, none⟩ = some pv
  lt : B < w.heap.size
theorem Boxed.made (w : World) (nv mv pv : Value) (t : TypeId) : Boxed w.heap.size (w.alloc (.cells #[nv, mv, pv] t)) nv mv pv := by
  refine ⟨?_, ?_, ?_, ?_⟩
  · rw [World.cell?_alloc_new]; rfl
  · rw [World.cell?_alloc_new]; rfl
  · rw [World.cell?_alloc_new]; rfl
  · simp
theorem Boxed.stays {B : Nat} {w w' : World} {nv mv pv : Value} (h : Boxed B w nv mv pv) (hb : Below w.heap.size w w') : Boxed B w' nv mv pv :=
  ⟨(hb.cell (p := ⟨B, 0, none⟩) h.lt).trans h.c0, (hb.cell (p := ⟨B, 1, none⟩) h.lt).trans h.c1, (hb.cell (p := ⟨B, 2, none⟩) h.lt).trans h.c2, Nat.lt_of_lt_of_le h.lt hb.size⟩

def ValuesR (W1 : World) (l : List Int) (n : Nat) (iv : Value) (wr : World) : Prop :=
  ∃ i : Nat, i ≤ n ∧ iv = .int .i64 i ∧ Hid (Below W1.heap.size W1 wr) ∧ Hid (∀ j x, j < i → l[j]? = some x → valueQ x = true)

set_option maxHeartbeats 1000000 in
theorem l05Values_any (nv mv pv : Value) (ns : List Nd) (k n : Nat) (w : World) (hN : NdsAt w nv ns) (hk : k < ns.length) (hn : n ≤ ns[k].kids.length) (hl : ns.length ≤ 1048576) (hkl : ns[k].kids.length ≤ 1048576) :
    Calls Try.prog 42 #[.agg #[nv, mv, pv], .int .i64 (k : Int), .int .i64 (n : Int)] w fun e w' => e = .returned (.bool (((kinds ns k).take n).all valueQ)) ∧ Below w.heap.size w w' := by
  have hb1 : Below w.heap.size w (w.alloc (.cells #[nv, mv, pv] 33)) := (Below.refl _ _).alloc (Nat.le_refl _) _
  have HN := hide (hN.stays hb1)
  have HX := hide (Boxed.made w nv mv pv 33)
  have HB := hide hb1
  clear hN hb1
  go_enter Try.func42, Try.ntmps42
  go_wp2
  obtain ⟨W1, hW⟩ : ∃ W1, w.alloc (.cells #[nv, mv, pv] 33) = W1 := ⟨_, rfl⟩
  rw [hW] at HN HX HB ⊢
  clear hW
  go_loopw [7] (ValuesR W1 (kinds ns k) n) (fun iv _ => n - (intOf iv).toNat)
  case atStart => exact ⟨0, by omega, rfl, Below.refl _ _, fun j x hj => absurd hj (Nat.not_lt_zero j)⟩
  case round =>
    obtain ⟨i, hi, rfl, HB2, HA⟩ := hrel
    obtain ⟨c0, c1, c2, _⟩ := HX.out.stays HB2.out
    by_cases hlt : i < n
    · have hlt' : (i : Int) < (n : Int) := by omega
      have C1 := fun w (h : NdsAt w nv ns) => hide (l05Kid_any nv mv pv ns k i w h hk (by omega) hl)
      have C2 := fun x w => hide (l05Value_any x w)
      have hx := hide (kinds_at? hk (show i < ns[k].kids.length by omega))
      obtain ⟨x, ex⟩ : ∃ x, x = kidKind ns k ns[k].kids[i] := ⟨_, rfl⟩
      rw [← ex] at hx
      simp only [← ex] at C1
      clear ex
      have HN2 := hide (HN.out.stays HB2.out)
      cases hv : valueQ x with
      | true => 
        have C2 := C2 x
        rw [hv] at C2
        go_wp2_with (first | (go_at_call 44; refine (unhide (C1 _ HN2.out)).mono ?_; rintro e w2 ⟨rfl, hb2⟩; have HB3 := hide hb2; clear hb2) | (go_at_call 16; refine (unhide (C2 _)).mono ?_; rintro e w3 ⟨rfl, rfl⟩))
        go_roundw
        case rel => exact ⟨i + 1, by omega, by go_num, HB2.out.trans (HB3.out.mono HB2.out.size), fun j y hj hy => by
          rcases Nat.lt_succ_iff_lt_or_eq.1 hj with hj | hj
          · exact HA.out j y hj hy
          · subst hj; rw [hx.out] at hy; cases hy; exact hv⟩
        case measure => simp [intOf]; omega
      | false =>
        have C2 := C2 x
        rw [hv] at C2
        go_wp2_with (first | (go_at_call 44; refine (unhide (C1 _ HN2.out)).mono ?_; rintro e w2 ⟨rfl, hb2⟩; have HB3 := hide hb2; clear hb2) | (go_at_call 16; refine (unhide (C2 _)).mono ?_; rintro e w3 ⟨rfl, rfl⟩))
        go_ret
        exact ⟨by rw [all_take_no hx.out hlt hv]; rfl, HB.out.trans ((HB2.out.trans (HB3.out.mono HB2.out.size)).mono HB.out.size)⟩
    · have hlt' : ¬ (i : Int) < (n : Int) := by omega
      go_wp2
      go_ret
      exact ⟨by rw [all_take_yes (fun j x hj hx => HA.out j x (by omega) hx)]; rfl, HB.out.trans (HB2.out.mono HB.out.size)⟩
end Go.Proofs.Ythlbboppdmdceaa

namespace Go.Proofs.Ythlbboppdmdceaa
open Go.RowKit

def blockQ (x : Int) : Bool := decide (x = 20)
def BlocksR (W1 : World) (l : List Int) (n m : Nat) (iv : Value) (wr : World) : Prop :=
  ∃ i : Nat, n ≤ i ∧ i ≤ m ∧ iv = .int .i64 i ∧ Hid (Below W1.heap.size W1 wr) ∧ Hid (∀ j x, n ≤ j → j < i → l[j]? = some x → blockQ x = true)

theorem NdsAt.node {w : World} {nv : Value} {ns : List Nd} (h : NdsAt w nv ns) (k : Nat) (hk : k < ns.length) :
    ∃ a c p kv, nv = .slice (some a) ns.length c ∧ a.add (k * 6) = p ∧ p.block < w.heap.size ∧ NdCell w p ns[k] kv := by
  obtain ⟨ao, c, rfl, hc⟩ := h
  obtain ⟨a, kv, rfl, ha, hx⟩ := hc k hk
  exact ⟨a, c, a.add (k * 6), kv, rfl, rfl, by rw [block_add]; exact ha, hx⟩

set_option maxHeartbeats 1000000 in
theorem l05Blocks_any (nv mv pv : Value) (ns : List Nd) (k n : Nat) (w : World) (hN : NdsAt w nv ns) (hk : k < ns.length) (hn : n ≤ ns[k].kids.length) (hl : ns.length ≤ 1048576) (hkl : ns[k].kids.length ≤ 1048576) :
    Calls Try.prog 43 #[.agg #[nv, mv, pv], .int .i64 (k : Int), .int .i64 (n : Int)] w fun e w' => e = .returned (.bool (((kinds ns k).drop n).all blockQ)) ∧ Below w.heap.size w w' := by
  have hb1 : Below w.heap.size w (w.alloc (.cells #[nv, mv, pv] 33)) := (Below.refl _ _).alloc (Nat.le_refl _) _
  have HN := hide (hN.stays hb1)
  have HX := hide (Boxed.made w nv mv pv 33)
  have HB := hide hb1
  clear hN hb1
  go_enter Try.func43, Try.ntmps43
  go_wp2
  obtain ⟨W1, hW⟩ : ∃ W1, w.alloc (.cells #[nv, mv, pv] 33) = W1 := ⟨_, rfl⟩
  rw [hW] at HN HX HB ⊢
  clear hW
  have hi0 : (0 : Int) ≤ (k : Int) := by omega
  have hi1 : (k : Int) < (ns.length : Int) := by omega
  obtain ⟨m, hm⟩ : ∃ m, ns[k].kids.length = m := ⟨_, rfl⟩
  have HM := hide hm
  rw [hm] at hn hkl
  go_loopw [7] (BlocksR W1 (kinds ns k) n m) (fun iv _ => m - (intOf iv).toNat)
  case atStart => exact ⟨n, by omega, by omega, rfl, Below.refl _ _, fun j x h1 h2 => absurd h2 (by omega)⟩
  case round =>
    obtain ⟨i, hni, hi, rfl, HB2, HA⟩ := hrel
    obtain ⟨c0, c1, c2, _⟩ := HX.out.stays HB2.out
    have HN2 := hide (HN.out.stays HB2.out)
    obtain ⟨a, c, p, kv, rfl, hpa, hpb, hcell⟩ := HN2.out.node k hk
    have d5 := hcell.c5
    obtain ⟨bo, cb, rfl, _⟩ := hcell.kids
    rw [hm] at d5
    clear hcell hm
    by_cases hlt : i < m
    · have hlt' : (i : Int) < (m : Int) := by omega
      have hik : i < ns[k].kids.length := by rw [HM.out]; exact hlt
      have C1 := fun w (h : NdsAt w (.slice (some a) ns.length c) ns) => hide (l05Kid_any (.slice (some a) ns.length c) mv pv ns k i w h hk hik hl)
      have hx := hide (kinds_at? hk hik)
      obtain ⟨x, ex⟩ : ∃ x, x = kidKind ns k ns[k].kids[i] := ⟨_, rfl⟩
      rw [← ex] at hx
      simp only [← ex] at C1
      clear ex
      by_cases hv : x = 20
      · have HV : Hid (blockQ x = true) := by show _ = _; simp [blockQ, hv]
        go_wp2_with (go_at_call 44; refine (unhide (C1 _ HN2.out)).mono ?_; rintro e w2 ⟨rfl, hb2⟩; have HB3 := hide hb2; clear hb2)
        go_roundw
        case rel => exact ⟨i + 1, by omega, by omega, by go_num, HB2.out.trans (HB3.out.mono HB2.out.size), fun j y h1 hj hy => by
          rcases Nat.lt_succ_iff_lt_or_eq.1 hj with hj | hj
          · exact HA.out j y h1 hj hy
          · subst hj; rw [hx.out] at hy; cases hy; exact HV.out⟩
        case measure => simp [intOf]; omega
      · have HV : Hid (blockQ x = false) := by show _ = _; simp [blockQ, hv]
        go_wp2_with (go_at_call 44; refine (unhide (C1 _ HN2.out)).mono ?_; rintro e w2 ⟨rfl, hb2⟩; have HB3 := hide hb2; clear hb2)
        go_ret
        exact ⟨by rw [all_drop_no hx.out hni HV.out]; rfl, HB.out.trans ((HB2.out.trans (HB3.out.mono HB2.out.size)).mono HB.out.size)⟩
    · have hlt' : ¬ (i : Int) < (m : Int) := by omega
      go_wp2
      go_ret
      exact ⟨by rw [all_drop_yes (fun j x h1 hx => HA.out j x h1 (by have := (List.getElem?_eq_some_iff.1 hx).1; rw [kinds_len hk, HM.out] at this; omega) hx)]; rfl, HB.out.trans (HB2.out.mono HB.out.size)⟩

/-- Are a node's kids what its kind wants? -/
def kidsB (kd : Int) (l : List Int) : Bool :=
  if kd = 1 ∨ kd = 2 ∨ kd = 16 ∨ kd = 17 ∨ kd = 18 ∨ kd = 19 then decide (l.length = 0)
  else if kd = 3 then decide (l.length = 2) && (l.take 2).all valueQ
  else if kd = 4 ∨ kd = 5 ∨ kd = 11 ∨ kd = 14 ∨ kd = 15 then decide (l.length = 1) && (l.take 1).all valueQ
  else if kd = 12 then decide (l.length = 2 ∨ l.length = 3) && (l.take 1).all valueQ && (l.drop 1).all blockQ
  else if kd = 13 then decide (l.length = 2) && (l.take 1).all valueQ && (l.drop 1).all blockQ
  else l.all stmtQ && inZ 1 12 l.length
end Go.Proofs.Ythlbboppdmdceaa
