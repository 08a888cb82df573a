/-
  Sizes of a program that comes in, and the laws' helpers at a program.
-/
import Derived.Test.YtipmgmmchmdajaaLawI
import Derived.Test.YtipmgmmchmdajaaLawE
import Derived.Test.YtipmgmmchmdajaaTurnW
import Derived.Test.YtipmgmmchmdajaaTreeP
import Derived.Test.YtipmgmmchmdajaaAid
namespace Go.Proofs.Ytipmgmmchmdajaa
open Go.RowKit

theorem le_sum {α : Type} (f : α → Nat) : ∀ (xs : List α) (x : α), x ∈ xs → f x ≤ (xs.map f).sum
  | y :: xs, x, h => by
    rw [List.map_cons, List.sum_cons]
    rcases List.mem_cons.1 h with h | h
    · subst h; omega
    · have := le_sum f xs x h; omega
theorem szStrs_len {xs : List ByteArray} (h : szStrs xs ≤ 1048576) : xs.length ≤ 1048576 := by
  unfold szStrs at h
  omega
theorem szPg_len {x : Pg} (h : szPg x ≤ 1048576) : PgLen x := by
  unfold szPg szNds szMos szPrs at h
  have hn : ∀ y ∈ x.nodes, szNd y ≤ 1048576 := fun y hy => by have := le_sum szNd x.nodes y hy; omega
  have hm : ∀ y ∈ x.mons, szMo y ≤ 1048576 := fun y hy => by have := le_sum szMo x.mons y hy; omega
  have hp : ∀ y ∈ x.pros, szPr y ≤ 1048576 := fun y hy => by have := le_sum szPr x.pros y hy; omega
  refine ⟨by omega, by omega, by omega, fun y hy => ?_, fun y hy => ?_, fun y hy => ?_⟩
  · have h1 := hn y hy
    unfold szNd at h1
    omega
  · have h1 := hm y hy
    unfold szMo at h1
    have h2 : szEns y.ents ≤ 1048576 := by omega
    unfold szEns at h2
    exact ⟨szStrs_len (by omega), szStrs_len (by omega), by omega⟩
  · have h1 := hp y hy
    unfold szPr at h1
    exact ⟨szStrs_len (by omega), szStrs_len (by omega)⟩

/-- A program at three values. -/
structure PgAt (w : World) (nv mv pv : Value) (x : Pg) : Prop where
  nodes : NdsAt w nv x.nodes
  mons : MosAt w mv x.mons
  pros : PrsAt w pv x.pros
theorem PgAt.stays {w w' : World} {nv mv pv : Value} {x : Pg} (h : PgAt w nv mv pv x) (hb : Below w.heap.size w w') : PgAt w' nv mv pv x := ⟨h.nodes.stays hb, h.mons.stays hb, h.pros.stays hb⟩
theorem ProgC.at {base : Nat} {w : World} {a b c : Value} {x : Pg} (h : ProgC base w [a, b, c] x) : PgAt w a b c x ∧ NdsRoom w a x.nodes.length := by
  obtain ⟨nv, mv, pv, e, h1, h2, h3⟩ := h
  injection e with e1 e2
  injection e2 with e2 e3
  injection e3 with e3 _
  subst e1 e2 e3
  exact ⟨⟨h1.at, h2.at, h3.at⟩, h1.room⟩

theorem eqProgram_at {w : World} {a b c a' b' c' : Value} {x : Pg} (h : PgAt w a b c x) (k : PgAt w a' b' c' x) (hL : PgLen x) :
    Calls Try.prog 13 #[.agg #[a, b, c], .agg #[a', b', c']] w fun e w' => e = .returned (.bool true) ∧ Below w.heap.size w w' :=
  eqProgram_same x a a' b b' c c' w h.nodes k.nodes h.mons k.mons h.pros k.pros hL
theorem toProgram_at {w : World} {nv mv pv : Value} {x : Pg} (h : PgAt w nv mv pv x) (hL : PgLen x) :
    Calls Try.prog 9 #[.agg #[nv, mv, pv]] w fun e w' => ∃ o0 n0 c0 o1 n1 c1 o2 n2 c2, e = .returned (.agg #[.slice o0 n0 c0, .slice o1 n1 c1, .slice o2 n2 c2]) ∧ ProgC w.heap.size w' [.slice o0 n0 c0, .slice o1 n1 c1, .slice o2 n2 c2] x ∧ Below w.heap.size w w' :=
  toProgram_any x nv mv pv w h.nodes h.mons h.pros hL

end Go.Proofs.Ytipmgmmchmdajaa

namespace Go.Proofs.Ytipmgmmchmdajaa
open Go.RowKit

theorem PgAt.a0 {w : World} {nv mv pv : Value} {x : Pg} (h : PgAt w nv mv pv x) : NdsAt w nv x.nodes := h.nodes
theorem PgAt.a1 {w : World} {nv mv pv : Value} {x : Pg} (h : PgAt w nv mv pv x) : MosAt w mv x.mons := h.mons
theorem PgAt.a2 {w : World} {nv mv pv : Value} {x : Pg} (h : PgAt w nv mv pv x) : PrsAt w pv x.pros := h.pros
theorem PgLen.l0 {x : Pg} (h : PgLen x) : x.nodes.length ≤ 1048576 := h.nl
theorem PgLen.l1 {x : Pg} (h : PgLen x) : x.mons.length ≤ 1048576 := h.ml
theorem PgLen.l2 {x : Pg} (h : PgLen x) : x.pros.length ≤ 1048576 := h.pl
/-- A copy that toProgram makes. -/
structure PgC (base : Nat) (w : World) (cs : List Value) (x : Pg) : Prop where
  c : ProgC base w cs x
theorem PgC.stays {base : Nat} {w w' : World} {cs : List Value} {x : Pg} (h : PgC base w cs x) (hb : Below w.heap.size w w') : PgC base w' cs x := by
  obtain ⟨nv, mv, pv, e, h1, h2, h3⟩ := h.c
  exact ⟨nv, mv, pv, e, h1.kept (KeptFrom.below hb), h2.kept (KeptFrom.below hb), h3.kept (KeptFrom.below hb)⟩
theorem PgC.at {base : Nat} {w : World} {a b c : Value} {x : Pg} (h : PgC base w [a, b, c] x) : PgAt w a b c x := h.c.at.1
theorem toProgramC_any (x : Pg) (nv mv pv : Value) (w : World) (h0 : NdsAt w nv x.nodes) (h1 : MosAt w mv x.mons) (h2 : PrsAt w pv x.pros) (hL : PgLen x) :
    Calls Try.prog 9 #[.agg #[nv, mv, pv]] w fun e w' => ∃ o0 n0 c0 o1 n1 c1 o2 n2 c2, e = .returned (.agg #[.slice o0 n0 c0, .slice o1 n1 c1, .slice o2 n2 c2]) ∧ PgC w.heap.size w' [.slice o0 n0 c0, .slice o1 n1 c1, .slice o2 n2 c2] x ∧ Below w.heap.size w w' := by
  refine (toProgram_any x nv mv pv w h0 h1 h2 hL).mono ?_
  rintro e w' ⟨o0, n0, c0, o1, n1, c1, o2, n2, c2, rfl, hc, hb⟩
  exact ⟨o0, n0, c0, o1, n1, c1, o2, n2, c2, rfl, ⟨hc⟩, hb⟩
/-- Its shape. -/
structure PgSh (B T : Nat) (w : World) (v0 v1 v2 : Value) (x : Pg) : Prop where
  s0 : ShR B T 6 (fNod B T) x.nodes.length w v0
  s1 : ShR B T 4 (fMon B T) x.mons.length w v1
  s2 : ShR B T 4 (fPro B T) x.pros.length w v2
theorem PgSh.turn {B T B' T' : Nat} {w w' : World} {v0 v1 v2 : Value} {x : Pg} (h : PgSh B T w v0 v1 v2 x) (ht : Turn B' T' w w') : PgSh B T w' v0 v1 v2 x := ⟨h.s0.turn ht fun i _ => fNod_s B T i, h.s1.turn ht fun i _ => fMon_s B T i, h.s2.turn ht fun i _ => fPro_s B T i⟩
theorem PgSh.stays {B T : Nat} {w w' : World} {v0 v1 v2 : Value} {x : Pg} (h : PgSh B T w v0 v1 v2 x) (hb : Below w.heap.size w w') : PgSh B T w' v0 v1 v2 x := h.turn (T' := 0) (Turn.below hb (Nat.le_refl _))
theorem PgC.sh {base T : Nat} {w : World} {v0 v1 v2 : Value} {x : Pg} (h : PgC base w [v0, v1, v2] x) (hT : w.heap.size ≤ T) (hL : PgLen x) : PgSh base T w v0 v1 v2 x := by
  obtain ⟨nv, mv, pv, e, h1, h2, h3⟩ := h.c
  injection e with e0 e
  injection e with e1 e
  injection e with e2 _
  subst e0 e1 e2
  exact ⟨h1.sh hT hL.kids, h2.sh hT hL.mon, h3.sh hT hL.pro⟩
end Go.Proofs.Ytipmgmmchmdajaa

namespace Go.Proofs.Ytipmgmmchmdajaa
open Go.RowKit

/-- The word that stands for what comes out of an entry. -/
def resultN : ByteArray := ⟨#[114, 101, 115, 117, 108, 116]⟩
/-- No two are the same, and none is that word. -/
noncomputable def unlikeB (xs : List ByteArray) : Bool := @decide (xs.Nodup ∧ resultN ∉ xs) (Classical.propDecidable _)
theorem unlike_nil : unlikeB [] = true := by simp [unlikeB]
theorem unlike_snoc (ys : List ByteArray) (x : ByteArray) : unlikeB (ys ++ [x]) = true ↔ unlikeB ys = true ∧ x ≠ resultN ∧ x ∉ ys := by
  simp only [unlikeB, decide_eq_true_eq, List.nodup_append, List.mem_append, List.mem_singleton]
  constructor
  · rintro ⟨⟨h1, _, h3⟩, h4⟩
    exact ⟨⟨h1, fun h => h4 (Or.inl h)⟩, fun e => h4 (Or.inr e.symm), fun h => h3 x h x rfl rfl⟩
  · rintro ⟨⟨h1, h2⟩, h3, h4⟩
    refine ⟨⟨h1, by simp, fun a ha b hb e => ?_⟩, fun h => ?_⟩
    · subst hb; subst e; exact h4 ha
    · rcases h with h | h
      · exact h2 h
      · exact h3 h.symm
theorem unlike_perm {xs ys : List ByteArray} (h : xs.Perm ys) : unlikeB xs = unlikeB ys := by
  unfold unlikeB
  exact decide_eq_decide.2 (and_congr h.nodup_iff (not_congr h.mem_iff))
theorem unlike_take {xs : List ByteArray} {i : Nat} (h : unlikeB (xs.take i) = false) : unlikeB xs = false := by
  rw [Bool.eq_false_iff] at h ⊢
  intro h2
  apply h
  simp only [unlikeB, decide_eq_true_eq] at h2 ⊢
  exact ⟨h2.1.sublist (List.take_sublist i xs), fun q => h2.2 (List.mem_of_mem_take q)⟩
theorem unlike_step {xs : List ByteArray} {i : Nat} (hi : i < xs.length) (h : unlikeB (xs.take i) = true) (h1 : xs[i] ≠ resultN) (h2 : xs[i] ∉ xs.take i) : unlikeB (xs.take (i + 1)) = true := by
  rw [List.take_succ_eq_append_getElem hi]
  exact (unlike_snoc _ _).2 ⟨h, h1, h2⟩
theorem unlike_stop {xs : List ByteArray} {i : Nat} (hi : i < xs.length) (h : xs[i] = resultN ∨ xs[i] ∈ xs.take i) : unlikeB xs = false := by
  apply unlike_take (i := i + 1)
  rw [List.take_succ_eq_append_getElem hi, Bool.eq_false_iff]
  intro q
  obtain ⟨_, q1, q2⟩ := (unlike_snoc _ _).1 q
  rcases h with h | h
  · exact q1 h
  · exact q2 h
theorem mem_take_of {xs : List ByteArray} {i k : Nat} (hk : k < i) (hx : k < xs.length) : xs[k] ∈ xs.take i :=
  List.mem_take_iff_getElem.2 ⟨k, by omega, rfl⟩
theorem not_mem_take {xs : List ByteArray} {i : Nat} {x : ByteArray} (h : ∀ j, j < i → xs[j]? ≠ some x) : x ∉ xs.take i := by
  intro q
  obtain ⟨j, hj, e⟩ := List.mem_take_iff_getElem.1 q
  exact h j (by omega) (by rw [List.getElem?_eq_getElem (by omega), e])
/-- Is the name among these? -/
def memB (ks : List ByteArray) (s : ByteArray) : Bool := ks.any fun x => decide (x = s)
theorem memB_iff {ks : List ByteArray} {s : ByteArray} : memB ks s = true ↔ s ∈ ks := by
  rw [memB, List.any_eq_true]
  exact ⟨fun ⟨x, h, e⟩ => of_decide_eq_true e ▸ h, fun h => ⟨s, h, decide_eq_true rfl⟩⟩
theorem memB_no {ks : List ByteArray} {s : ByteArray} : memB ks s = false ↔ s ∉ ks := by
  rw [Bool.eq_false_iff]
  exact not_congr memB_iff
theorem memB_congr {ks ls : List ByteArray} {s t : ByteArray} (h : s ∈ ks ↔ t ∈ ls) : memB ks s = memB ls t := Bool.eq_iff_iff.2 (memB_iff.trans (h.trans memB_iff.symm))
end Go.Proofs.Ytipmgmmchmdajaa
