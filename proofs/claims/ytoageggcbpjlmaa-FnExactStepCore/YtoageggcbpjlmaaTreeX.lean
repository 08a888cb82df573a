/-
  Walks: what kids a node wants, by the specification.
-/
import Derived.Test.YtoageggcbpjlmaaRowQ
import Derived.Laws.OwnMore
import Derived.Handy
namespace Go.Proofs.Ytoageggcbpjlmaa
open Go.RowKit

/-- The kinds of a node's kids. -/
def kinds (ns : List Nd) (k : Nat) : List Int := (ns.getD k default).kids.map (kidKind ns k)
theorem getD_at {ns : List Nd} {k : Nat} (hk : k < ns.length) : ns.getD k default = ns[k] := by simp [List.getD_eq_getElem?_getD, List.getElem?_eq_getElem hk]
theorem kinds_len {ns : List Nd} {k : Nat} (hk : k < ns.length) : (kinds ns k).length = ns[k].kids.length := by rw [kinds, getD_at hk, List.length_map]
theorem kinds_at {ns : List Nd} {k i : Nat} (hk : k < ns.length) (hi : i < ns[k].kids.length) : (kinds ns k)[i]'(by rw [kinds_len hk]; exact hi) = kidKind ns k ns[k].kids[i] := by
  have e : kinds ns k = ns[k].kids.map (kidKind ns k) := by rw [kinds, getD_at hk]
  simp [e]
theorem kinds_at? {ns : List Nd} {k i : Nat} (hk : k < ns.length) (hi : i < ns[k].kids.length) : (kinds ns k)[i]? = some (kidKind ns k ns[k].kids[i]) := by
  rw [List.getElem?_eq_getElem (by rw [kinds_len hk]; exact hi), kinds_at hk hi]

theorem all_take_no {α : Type} {q : α → Bool} {l : List α} {n i : Nat} {x : α} (h : l[i]? = some x) (hi : i < n) (hq : q x = false) : (l.take n).all q = false := by
  rw [List.all_eq_false]
  refine ⟨x, ?_, by simp [hq]⟩
  obtain ⟨hl, e⟩ := List.getElem?_eq_some_iff.1 h
  exact List.mem_take_iff_getElem.2 ⟨i, by omega, e⟩
theorem all_take_yes {α : Type} {q : α → Bool} {l : List α} {n : Nat} (h : ∀ j x, j < n → l[j]? = some x → q x = true) : (l.take n).all q = true := by
  rw [List.all_eq_true]
  intro x hx
  obtain ⟨i, hi, e⟩ := List.mem_take_iff_getElem.1 hx
  exact h i x (by omega) (by rw [List.getElem?_eq_getElem (by omega), e])
theorem all_drop_no {α : Type} {q : α → Bool} {l : List α} {n i : Nat} {x : α} (h : l[i]? = some x) (hi : n ≤ i) (hq : q x = false) : (l.drop n).all q = false := by
  rw [List.all_eq_false]
  refine ⟨x, ?_, by simp [hq]⟩
  exact List.mem_iff_getElem?.2 ⟨i - n, by rw [List.getElem?_drop, show n + (i - n) = i by omega]; exact h⟩
theorem all_drop_yes {α : Type} {q : α → Bool} {l : List α} {n : Nat} (h : ∀ j x, n ≤ j → l[j]? = some x → q x = true) : (l.drop n).all q = true := by
  rw [List.all_eq_true]
  intro x hx
  obtain ⟨i, hi⟩ := List.mem_iff_getElem?.1 hx
  rw [List.getElem?_drop] at hi
  exact h (n + i) x (by omega) hi

/-- A program in its box. -/
structure Boxed (B : Nat) (w : World) (nv mv pv : Value) : Prop where
  c0 : w.cell? ⟨B, 0, none⟩ = some nv
  c1 : w.cell? ⟨B, 1, none⟩ = some mv
  c2 : w.cell? ⟨B, 2, none⟩ = some pv
  lt : B < w.heap.size
theorem Boxed.made (w : World) (nv mv pv : Value) (t : TypeId) : Boxed w.heap.size (w.alloc (.cells #[nv, mv, pv] t)) nv mv pv := by
  refine ⟨?_, ?_, ?_, ?_⟩
  · rw [World.cell?_alloc_new]; rfl
  · rw [World.cell?_alloc_new]; rfl
  · rw [World.cell?_alloc_new]; rfl
  · simp
theorem Boxed.stays {B : Nat} {w w' : World} {nv mv pv : Value} (h : Boxed B w nv mv pv) (hb : Below w.heap.size w w') : Boxed B w' nv mv pv :=
  ⟨(hb.cell (p := ⟨B, 0, none⟩) h.lt).trans h.c0, (hb.cell (p := ⟨B, 1, none⟩) h.lt).trans h.c1, (hb.cell (p := ⟨B, 2, none⟩) h.lt).trans h.c2, Nat.lt_of_lt_of_le h.lt hb.size⟩

def ValuesR (W1 : World) (l : List Int) (n : Nat) (iv : Value) (wr : World) : Prop :=
  ∃ i : Nat, i ≤ n ∧ iv = .int .i64 i ∧ Hid (Below W1.heap.size W1 wr) ∧ Hid (∀ j x, j < i → l[j]? = some x → valueQ x = true)

end Go.Proofs.Ytoageggcbpjlmaa

namespace Go.Proofs.Ytoageggcbpjlmaa
open Go.RowKit

def IntC (_base : Nat) (_w : World) (cs : List Value) (x : Int) : Prop := cs = [.int .i64 x]
def StrC (_base : Nat) (_w : World) (cs : List Value) (x : ByteArray) : Prop := cs = [.string x]
instance : Told IntC := ⟨fun h _ => h, fun h _ => h⟩
instance : Told StrC := ⟨fun h _ => h, fun h _ => h⟩
theorem ObjsIn.ints {base : Nat} {w : World} {v : Value} {xs : List Int} (h : ObjsIn IntC 1 base w v xs) : IntsIn base w v xs := by
  obtain ⟨css, ⟨ao, c, rfl, h0, hc⟩, hl, hr⟩ := h
  refine ⟨ao, c, by rw [hl, List.length_map], ⟨by rw [List.length_map]; omega, fun h1 => h0.2 (by rw [List.length_map] at h1; omega)⟩, fun j u hj => ?_⟩
  rw [List.getElem?_map] at hj
  obtain ⟨x, hx, rfl⟩ := Option.map_eq_some_iff.1 hj
  have hj2 := (List.getElem?_eq_some_iff.1 hx).1
  have hj3 : j < css.length := by omega
  obtain ⟨_, a, rfl, h1, h2, h3⟩ := hc j css[j] (List.getElem?_eq_getElem hj3)
  have e := hr j css[j] x (List.getElem?_eq_getElem hj3) hx
  rw [e] at h3
  exact ⟨a, rfl, h1, h2, by have := h3 0 _ rfl; simpa using this⟩
theorem ObjsIn.strs {base : Nat} {w : World} {v : Value} {xs : List ByteArray} (h : ObjsIn StrC 1 base w v xs) : StrsIn base w v xs := by
  obtain ⟨css, ⟨ao, c, rfl, h0, hc⟩, hl, hr⟩ := h
  refine ⟨ao, c, by rw [hl, List.length_map], ⟨by rw [List.length_map]; omega, fun h1 => h0.2 (by rw [List.length_map] at h1; omega)⟩, fun j u hj => ?_⟩
  rw [List.getElem?_map] at hj
  obtain ⟨x, hx, rfl⟩ := Option.map_eq_some_iff.1 hj
  have hj2 := (List.getElem?_eq_some_iff.1 hx).1
  have hj3 : j < css.length := by omega
  obtain ⟨_, a, rfl, h1, h2, h3⟩ := hc j css[j] (List.getElem?_eq_getElem hj3)
  have e := hr j css[j] x (List.getElem?_eq_getElem hj3) hx
  rw [e] at h3
  exact ⟨a, rfl, h1, h2, by have := h3 0 _ rfl; simpa using this⟩

def FillR {α : Type} (R : Nat → World → List Value → α → Prop) (s : Nat) (e : TypeId) (w : World) (xs : List α) (iv : Value) (wr : World) : Prop :=
  ∃ k : Nat, k ≤ xs.length ∧ iv = .int .i64 k ∧ Hid (Filled R s e w xs k wr)

set_option maxRecDepth 100000 in
set_option maxHeartbeats 1000000 in
theorem toIntS_any (v : Value) (xs : List Int) (w : World) (h : IntsAt w v xs) (hlen : xs.length ≤ 1048576) :
    Calls Try.prog 17 #[v] w fun e w' => ∃ v', e = .returned v' ∧ IntsIn w.heap.size w' v' xs ∧ Below w.heap.size w w' := by
  obtain ⟨i0, hi, hz0, hz1, hz2⟩ := info_parts (Try.infoInt)
  obtain ⟨wm, hmk, hown, hgr⟩ := run_make_full (P := Try.prog) w w.heap.size 22 3 i0 (.int .i64 0) 1 Try.underlying22 hi hz0 hz1 .i64 .i64 xs.length (by rw [hz2]; omega) (by unfold maxLen; omega) (Nat.le_refl _)
  have HS : Hid (Filled IntC 1 3 w xs 0 wm) := Filled.start IntC xs [.int .i64 0] (by decide) hown hgr
  have HC := hide h
  obtain ⟨ao, c, rfl, _⟩ := h
  clear hown hgr hi hz0 hz1 hz2
  obtain ⟨n, en⟩ : ∃ n, xs.length = n := ⟨_, rfl⟩
  have EN := hide en
  rw [en] at hmk hlen HC ⊢
  clear en
  go_enter Try.func17, Try.ntmps17
  go_wp2
  go_loopw [4] (FillR IntC 1 3 w xs) (fun iv _ => n - (intOf iv).toNat)
  case atStart => exact ⟨0, Nat.zero_le _, rfl, HS.out⟩
  case round =>
    obtain ⟨k, hk, rfl, HF⟩ := hrel
    rw [EN.out] at hk
    by_cases hlt : k < n
    · have hlt' : (k : Int) < (n : Int) := by omega
      have hi0 : (0 : Int) ≤ (k : Int) := by omega
      have hkx : k < xs.length := by rw [EN.out]; exact hlt
      obtain ⟨ao', c', e1, hc1⟩ := HC.out.stays HF.out.below
      injection e1 with e2 e3 e4
      subst e2
      obtain ⟨a, rfl, _, hx⟩ := hc1 k hkx
      obtain ⟨⟨u0, y0⟩, z0⟩ := HF.out.there hkx 0 (by omega)
      have HN := hide (HF.out.next hkx (y := [.int .i64 xs[k]]) rfl rfl)
      obtain ⟨x, ex⟩ : ∃ x, xs[k] = x := ⟨_, rfl⟩
      rw [ex] at hx HN
      rw [Nat.mul_one, Nat.add_zero] at y0 z0
      clear ex hc1 e3 e4
      go_wp2
      go_roundw
      case rel => exact ⟨k + 1, by rw [EN.out]; omega, by go_num, by have := HN.out; rwa [Nat.mul_one] at this⟩
      case measure => simp [intOf]; omega
    · have hlt' : ¬ (k : Int) < (n : Int) := by omega
      go_wp2
      go_ret
      exact ⟨_, rfl, by
        have := (HF.out.done (by rw [EN.out]; omega)).ints
        rwa [EN.out] at this, HF.out.below⟩
theorem Try.infoStr : (Try.prog.info? 9).map (fun i => (i.zero, i.size, i.bytes)) = some (some (.string ⟨#[]⟩), 1, 16) := by kernel_rfl
end Go.Proofs.Ytoageggcbpjlmaa

namespace Go.Proofs.Ytoageggcbpjlmaa
open Go.RowKit

def blockQ (x : Int) : Bool := decide (x = 20)
def BlocksR (W1 : World) (l : List Int) (n m : Nat) (iv : Value) (wr : World) : Prop :=
  ∃ i : Nat, n ≤ i ∧ i ≤ m ∧ iv = .int .i64 i ∧ Hid (Below W1.heap.size W1 wr) ∧ Hid (∀ j x, n ≤ j → j < i → l[j]? = some x → blockQ x = true)

theorem NdsAt.node {w : World} {nv : Value} {ns : List Nd} (h : NdsAt w nv ns) (k : Nat) (hk : k < ns.length) :
    ∃ a c p kv, nv = .slice (some a) ns.length c ∧ a.add (k * 6) = p ∧ p.block < w.heap.size ∧ NdCell w p ns[k] kv := by
  obtain ⟨ao, c, rfl, hc⟩ := h
  obtain ⟨a, kv, rfl, ha, hx⟩ := hc k hk
  exact ⟨a, c, a.add (k * 6), kv, rfl, rfl, by rw [block_add]; exact ha, hx⟩

/-- Are a node's kids what its kind wants? -/
def kidsB (kd : Int) (l : List Int) : Bool :=
  if kd = 1 ∨ kd = 2 ∨ kd = 16 ∨ kd = 17 ∨ kd = 18 ∨ kd = 19 then decide (l.length = 0)
  else if kd = 3 then decide (l.length = 2) && (l.take 2).all valueQ
  else if kd = 4 ∨ kd = 5 ∨ kd = 11 ∨ kd = 14 ∨ kd = 15 then decide (l.length = 1) && (l.take 1).all valueQ
  else if kd = 12 then decide (l.length = 2 ∨ l.length = 3) && (l.take 1).all valueQ && (l.drop 1).all blockQ
  else if kd = 13 then decide (l.length = 2) && (l.take 1).all valueQ && (l.drop 1).all blockQ
  else l.all stmtQ && inZ 1 12 l.length
end Go.Proofs.Ytoageggcbpjlmaa

namespace Go.Proofs.Ytoageggcbpjlmaa
open Go.RowKit

end Go.Proofs.Ytoageggcbpjlmaa

namespace Go.Proofs.Ytoageggcbpjlmaa
open Go.RowKit

/-- The boxes of a copy: what came in, the result, what is made. -/
structure ThreeB (w : World) (A Z O : Array Value) (tA t : TypeId) (z : World) : Prop where
  bA : Box z w.heap.size A tA
  bZ : Box z (w.heap.size + 1) Z t
  bO : Box z (w.heap.size + 1 + 1) O t
  bel : Below w.heap.size w z
  lt : w.heap.size + 3 ≤ z.heap.size
theorem ThreeB.start (w : World) (A Z O : Array Value) (tA t : TypeId) : ThreeB w A Z O tA t (((w.alloc (.cells A tA)).alloc (.cells Z t)).alloc (.cells O t)) :=
  ⟨((Box.made w _ _).stays ((Below.refl _ _).alloc (Nat.le_refl _) _)).stays ((Below.refl _ _).alloc (Nat.le_refl _) _), (Box.madeAt (by simp) _ _).stays ((Below.refl _ _).alloc (Nat.le_refl _) _), Box.madeAt (by simp) _ _, by go_grown, by simp⟩
theorem ThreeB.stays {w : World} {A Z O : Array Value} {tA t : TypeId} {z z' : World} (h : ThreeB w A Z O tA t z) (hb : Below z.heap.size z z') : ThreeB w A Z O tA t z' :=
  ⟨h.bA.stays hb, h.bZ.stays hb, h.bO.stays hb, h.bel.trans (hb.mono h.bel.size), Nat.le_trans h.lt hb.size⟩
theorem ThreeB.put {w : World} {A Z O : Array Value} {tA t : TypeId} {z : World} (h : ThreeB w A Z O tA t z) (i : Nat) (v : Value) : ThreeB w A Z (O.setIfInBounds i v) tA t (z.setCell ⟨w.heap.size + 1 + 1, i, none⟩ v) :=
  ⟨h.bA.other _ _ (by dsimp only; omega), h.bZ.other _ _ (by dsimp only; omega), h.bO.set i v, h.bel.setCell (by dsimp only; omega) _, by
    have := h.lt
    simpa [World.setCell] using this⟩
theorem ThreeB.kept {w : World} {z : World} (i : Nat) (v : Value) : KeptFrom (w.heap.size + 3) z (z.setCell ⟨w.heap.size + 1 + 1, i, none⟩ v) := KeptFrom.setCell (by omega) _ _ _
theorem ThreeB.keptR {w : World} {z : World} (i : Nat) (v : Value) : KeptFrom (w.heap.size + 3) z (z.setCell ⟨w.heap.size + 1, i, none⟩ v) := KeptFrom.setCell (by omega) _ _ _

theorem CellsIn.form {base : Nat} {w : World} {v : Value} {vs : List Value} (h : CellsIn base w v vs) : ∃ o n c, v = .slice o n c := by
  obtain ⟨o, c, rfl, _⟩ := h; exact ⟨_, _, _, rfl⟩
theorem ObjsIn.form {α : Type} {R : Nat → World → List Value → α → Prop} {s base : Nat} {w : World} {v : Value} {xs : List α} (h : ObjsIn R s base w v xs) : ∃ o n c, v = .slice o n c := by
  obtain ⟨css, ⟨o, c, rfl, _⟩, _⟩ := h; exact ⟨_, _, _, rfl⟩
end Go.Proofs.Ytoageggcbpjlmaa

namespace Go.Proofs.Ytoageggcbpjlmaa
open Go.RowKit

/-- A program. -/
structure Pg where
  nodes : List Nd
  mons : List Mo
  pros : List Pr
def ProgC (base : Nat) (w : World) (cs : List Value) (x : Pg) : Prop := ∃ nv mv pv, cs = [nv, mv, pv] ∧ NdsIn base w nv x.nodes ∧ MosIn base w mv x.mons ∧ PrsIn base w pv x.pros
instance : Told ProgC where
  kept := fun ⟨nv, mv, pv, e, h1, h2, h3⟩ k => ⟨nv, mv, pv, e, h1.kept k, h2.kept k, h3.kept k⟩
  mono := fun ⟨nv, mv, pv, e, h1, h2, h3⟩ k => ⟨nv, mv, pv, e, h1.mono k, h2.mono k, h3.mono k⟩
/-- A program whose lists are no longer than may be. -/
structure PgLen (x : Pg) : Prop where
  nl : x.nodes.length ≤ 1048576
  ml : x.mons.length ≤ 1048576
  pl : x.pros.length ≤ 1048576
  kids : ∀ y ∈ x.nodes, y.kids.length ≤ 1048576
  mon : ∀ y ∈ x.mons, y.vars.length ≤ 1048576 ∧ y.queues.length ≤ 1048576 ∧ y.ents.length ≤ 1048576
  pro : ∀ y ∈ x.pros, y.uses.length ≤ 1048576 ∧ y.vars.length ≤ 1048576

end Go.Proofs.Ytoageggcbpjlmaa
