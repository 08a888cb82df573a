/-
  Words of a machine: as functions.
-/
import Derived.Test.YtpamglakdnegcaaDoorValW
import Derived.Test.YtpamglakdnegcaaDoorAid
import Derived.DataElems
import Derived.Laws.Cells
import Derived.Lib.Builder
import Derived.Deep.MidRow
namespace Go.Proofs.YtpamglakdnegcaaDoor
open Go.RowKit

/-- The parts of a word. -/
structure In4 where
  op : Int
  a : Int
  b : Int
  c : Int
/-- What an Op asks of its parts. -/
def insArgs (op a b c : Int) : Bool :=
  if op = 1 then decide (c ≤ 1000000) else if op = 4 then inZ 1 9 c else if op = 5 then c == 0 else if op = 6 then c == 0 else if op = 8 then a == 0 else if op = 10 then inZ 1 7 a && b == 0 else true
/-- Whether it uses its second register. -/
def insTwo (op b : Int) : Bool := op == 4 || op == 10 || b == 0
def insB (op a b c : Int) : Bool := inZ 1 10 op && inZ 0 7 a && inZ 0 7 b && inZ 0 4194303 c && insTwo op b && insArgs op a b c
def encI (op a b c : Int) : Int := op * 268435456 + a * 33554432 + b * 4194304 + c
/-- The parts of a number. -/
def decOp (n : Int) : Int := n / 268435456
def decA (n : Int) : Int := n / 33554432 % 8
def decBb (n : Int) : Int := n / 4194304 % 8
def decC (n : Int) : Int := n % 4194304
def decB (n : Int) : Bool := inZ 0 8589934592 n && insB (decOp n) (decA n) (decBb n) (decC n)

theorem insB_in {op a b c : Int} (h : insB op a b c = true) : (1 ≤ op ∧ op ≤ 10) ∧ (0 ≤ a ∧ a ≤ 7) ∧ (0 ≤ b ∧ b ≤ 7) ∧ (0 ≤ c ∧ c ≤ 4194303) := by
  unfold insB at h
  simp only [Bool.and_eq_true, inZ_yes] at h
  exact ⟨h.1.1.1.1.1, h.1.1.1.1.2, h.1.1.1.2, h.1.1.2⟩
theorem dec_enc {op a b c : Int} (h : insB op a b c = true) : decOp (encI op a b c) = op ∧ decA (encI op a b c) = a ∧ decBb (encI op a b c) = b ∧ decC (encI op a b c) = c ∧ inZ 0 8589934592 (encI op a b c) = true := by
  have := insB_in h
  unfold decOp decA decBb decC encI
  rw [inZ_yes]
  omega
theorem decB_enc {op a b c : Int} (h : insB op a b c = true) : decB (encI op a b c) = true := by
  obtain ⟨h1, h2, h3, h4, h5⟩ := dec_enc h
  unfold decB
  rw [h1, h2, h3, h4, h5, h]
  rfl
theorem enc_dec (n : Int) : encI (decOp n) (decA n) (decBb n) (decC n) = n := by
  unfold decOp decA decBb decC encI
  omega
end Go.Proofs.YtpamglakdnegcaaDoor

namespace Go.Proofs.YtpamglakdnegcaaDoor
open Go.RowKit

/-- A box: a block of these cells. -/
abbrev Box (w : World) (g : Nat) (cs : Array Value) (t : TypeId) : Prop := w.heap[g]? = some (.cells cs t (0, 0))

theorem Box.made (w : World) (cs : Array Value) (t : TypeId) : Box (w.alloc (.cells cs t)) w.heap.size cs t := heap_alloc_new w _
theorem Box.madeAt {w : World} {g : Nat} (hg : g = w.heap.size) (cs : Array Value) (t : TypeId) : Box (w.alloc (.cells cs t)) g cs t := by
  subst hg; exact heap_alloc_new w _
theorem Box.lt {w : World} {g : Nat} {cs : Array Value} {t : TypeId} (h : Box w g cs t) : g < w.heap.size := by
  rcases Nat.lt_or_ge g w.heap.size with hg | hg
  · exact hg
  · rw [Box, Array.getElem?_eq_none hg] at h; cases h
theorem Box.stays {w w' : World} {g : Nat} {cs : Array Value} {t : TypeId} (h : Box w g cs t) (hb : Below w.heap.size w w') : Box w' g cs t := (hb.block g h.lt).trans h
theorem Box.set {w : World} {g : Nat} {cs : Array Value} {t : TypeId} (h : Box w g cs t) (i : Nat) (v : Value) : Box (w.setCell ⟨g, i, none⟩ v) g (cs.setIfInBounds i v) t := by
  have h' : w.heap[g]? = some (.cells cs t (0, 0)) := h
  simp [Box, World.setCell, Array.getElem?_modify, h']
theorem Box.other {w : World} {g : Nat} {cs : Array Value} {t : TypeId} (h : Box w g cs t) (a : Addr) (v : Value) (ha : g ≠ a.block) : Box (w.setCell a v) g cs t :=
  (Below.heap_setCell w a v g ha).trans h
theorem Box.read {P : Program} {w : World} {g : Nat} {cs : Array Value} {t : TypeId} (h : Box w g cs t) (ty : TypeId) (d : TypeDesc) (hu : P.underlying ty = some d) (hd : d.isRow = true) (hi : (P.info? ty).map (·.size) = some cs.size) :
    (loadVar ty ⟨g, 0, none⟩).run P w = .ok (.agg cs) w := by
  have hl : (loadCells ⟨g, 0, none⟩ cs.size).run P w = .ok cs w := by
    have := run_loadCells_list (P := P) w ⟨g, 0, none⟩ cs.toList (fun j v hv => by
      have e : (⟨g, 0, none⟩ : Addr).add j = ⟨g, j, none⟩ := by
        simp only [Addr.add]
        split
        · next h => subst h; rfl
        · simp
      rw [e, Lib.cell_of_heap h j]
      simpa using hv)
    simpa using this
  cases hq : P.info? ty with
  | none => simp [hq] at hi
  | some i =>
    have hs : i.size = cs.size := by simpa [hq] using hi
    have hagg : (isAgg ty).run P w = .ok true w := by
      unfold isAgg
      rw [Sem.run_bind, run_underlying hu w]
      cases d <;> simp_all
    simp [loadVar, Sem.run_bind, hagg, sizeOf, typeInfo, hq, hs, hl]
theorem box_results {P : Program} {fn : Func} {p : Tmp} {ty : TypeId} (h : fn.results = #[.cell p ty]) (tmps : Array Value) (w : World) {a : Addr} (hp : tmps.getD p undef = .pointer (some a)) {v : Value} (hl : (loadVar ty a).run P w = .ok v w) :
    (results fn tmps).run P w = .ok v w := by
  have hp' : tmps[p]?.getD undef = .pointer (some a) := by simpa using hp
  simp only [results, h]
  simp [hp', asAddr, hl]
/-- A function whose one result is a struct in a box. -/
theorem box_ret {P : Program} {fn : Func} {p : Tmp} {ty : TypeId} {Q : Ending → World → Prop} {a : Act} {w : World} {g : Nat} {cs : Array Value} {t : TypeId} (hr : fn.results = #[.cell p ty]) (hp : a.tmps.getD p undef = .pointer (some ⟨g, 0, none⟩)) (hb : Box w g cs t)
    (d : TypeDesc) (hu : P.underlying ty = some d) (hd : d.isRow = true) (hi : (P.info? ty).map (·.size) = some cs.size) (hdf : a.defers = []) (h : Q (.returned (.agg cs)) w) : bodyPost P fn Q .ret a w :=
  bodyPost_ret (box_results hr a.tmps w hp (hb.read ty d hu hd hi)) hdf h
end Go.Proofs.YtpamglakdnegcaaDoor
