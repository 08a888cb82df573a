/-
  Sizes of a program that comes in, and the laws' helpers at a program.
-/
import Derived.Test.YthhmonkfhjfagaaLawI
import Derived.Test.YthhmonkfhjfagaaLawE
namespace Go.Proofs.Ythhmonkfhjfagaa
open Go.RowKit

theorem le_sum {α : Type} (f : α → Nat) : ∀ (xs : List α) (x : α), x ∈ xs → f x ≤ (xs.map f).sum
  | y :: xs, x, h => by
    rw [List.map_cons, List.sum_cons]
    rcases List.mem_cons.1 h with h | h
    · subst h; omega
    · have := le_sum f xs x h; omega
theorem szStrs_len {xs : List ByteArray} (h : szStrs xs ≤ 1048576) : xs.length ≤ 1048576 := by
  unfold szStrs at h
  omega
theorem szPg_len {x : Pg} (h : szPg x ≤ 1048576) : PgLen x := by
  unfold szPg szNds szMos szPrs at h
  have hn : ∀ y ∈ x.nodes, szNd y ≤ 1048576 := fun y hy => by have := le_sum szNd x.nodes y hy; omega
  have hm : ∀ y ∈ x.mons, szMo y ≤ 1048576 := fun y hy => by have := le_sum szMo x.mons y hy; omega
  have hp : ∀ y ∈ x.pros, szPr y ≤ 1048576 := fun y hy => by have := le_sum szPr x.pros y hy; omega
  refine ⟨by omega, by omega, by omega, fun y hy => ?_, fun y hy => ?_, fun y hy => ?_⟩
  · have h1 := hn y hy
    unfold szNd at h1
    omega
  · have h1 := hm y hy
    unfold szMo at h1
    have h2 : szEns y.ents ≤ 1048576 := by omega
    unfold szEns at h2
    exact ⟨szStrs_len (by omega), szStrs_len (by omega), by omega⟩
  · have h1 := hp y hy
    unfold szPr at h1
    exact ⟨szStrs_len (by omega), szStrs_len (by omega)⟩

/-- A program at three values. -/
structure PgAt (w : World) (nv mv pv : Value) (x : Pg) : Prop where
  nodes : NdsAt w nv x.nodes
  mons : MosAt w mv x.mons
  pros : PrsAt w pv x.pros
theorem PgAt.stays {w w' : World} {nv mv pv : Value} {x : Pg} (h : PgAt w nv mv pv x) (hb : Below w.heap.size w w') : PgAt w' nv mv pv x := ⟨h.nodes.stays hb, h.mons.stays hb, h.pros.stays hb⟩
theorem ProgC.at {base : Nat} {w : World} {a b c : Value} {x : Pg} (h : ProgC base w [a, b, c] x) : PgAt w a b c x ∧ NdsRoom w a x.nodes.length := by
  obtain ⟨nv, mv, pv, e, h1, h2, h3⟩ := h
  injection e with e1 e2
  injection e2 with e2 e3
  injection e3 with e3 _
  subst e1 e2 e3
  exact ⟨⟨h1.at, h2.at, h3.at⟩, h1.room⟩

theorem eqProgram_at {w : World} {a b c a' b' c' : Value} {x : Pg} (h : PgAt w a b c x) (k : PgAt w a' b' c' x) (hL : PgLen x) :
    Calls Try.prog 8 #[.agg #[a, b, c], .agg #[a', b', c']] w fun e w' => e = .returned (.bool true) ∧ Below w.heap.size w w' :=
  eqProgram_same x a a' b b' c c' w h.nodes k.nodes h.mons k.mons h.pros k.pros hL
theorem toProgram_at {w : World} {nv mv pv : Value} {x : Pg} (h : PgAt w nv mv pv x) (hL : PgLen x) :
    Calls Try.prog 6 #[.agg #[nv, mv, pv]] w fun e w' => ∃ o0 n0 c0 o1 n1 c1 o2 n2 c2, e = .returned (.agg #[.slice o0 n0 c0, .slice o1 n1 c1, .slice o2 n2 c2]) ∧ ProgC w.heap.size w' [.slice o0 n0 c0, .slice o1 n1 c1, .slice o2 n2 c2] x ∧ Below w.heap.size w w' :=
  toProgram_any x nv mv pv w h.nodes h.mons h.pros hL

end Go.Proofs.Ythhmonkfhjfagaa
