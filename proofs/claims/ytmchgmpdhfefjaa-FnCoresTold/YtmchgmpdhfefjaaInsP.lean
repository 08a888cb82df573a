/-
  Words of a machine: as functions.
-/
import Derived.Test.YtmchgmpdhfefjaaAid
import Derived.DataElems
import Derived.Laws.Cells
import Derived.Lib.Builder
import Derived.Deep.MidRow
import Derived.Laws.Shifts
import Derived.Laws.BitsAllLaws
namespace Go.Proofs.Ytmchgmpdhfefjaa
open Go.RowKit

/-- The parts of a word. -/
structure In4 where
  op : Int
  a : Int
  b : Int
  c : Int
/-- What an Op asks of its parts. -/
def insArgs (op a b c : Int) : Bool :=
  if op = 1 then decide (c ≤ 1000000) else if op = 4 then inZ 1 9 c else if op = 5 then c == 0 else if op = 6 then c == 0 else if op = 8 then a == 0 else if op = 10 then inZ 1 7 a && b == 0 else true
/-- Whether it uses its second register. -/
def insTwo (op b : Int) : Bool := op == 4 || op == 10 || b == 0
def insB (op a b c : Int) : Bool := inZ 1 10 op && inZ 0 7 a && inZ 0 7 b && inZ 0 4194303 c && insTwo op b && insArgs op a b c
def encI (op a b c : Int) : Int := op * 268435456 + a * 33554432 + b * 4194304 + c
/-- The parts of a number. -/
def decOp (n : Int) : Int := n / 268435456
def decA (n : Int) : Int := n / 33554432 % 8
def decBb (n : Int) : Int := n / 4194304 % 8
def decC (n : Int) : Int := n % 4194304
def decB (n : Int) : Bool := inZ 0 8589934592 n && insB (decOp n) (decA n) (decBb n) (decC n)

theorem insB_in {op a b c : Int} (h : insB op a b c = true) : (1 ≤ op ∧ op ≤ 10) ∧ (0 ≤ a ∧ a ≤ 7) ∧ (0 ≤ b ∧ b ≤ 7) ∧ (0 ≤ c ∧ c ≤ 4194303) := by
  unfold insB at h
  simp only [Bool.and_eq_true, inZ_yes] at h
  exact ⟨h.1.1.1.1.1, h.1.1.1.1.2, h.1.1.1.2, h.1.1.2⟩
theorem dec_enc {op a b c : Int} (h : insB op a b c = true) : decOp (encI op a b c) = op ∧ decA (encI op a b c) = a ∧ decBb (encI op a b c) = b ∧ decC (encI op a b c) = c ∧ inZ 0 8589934592 (encI op a b c) = true := by
  have := insB_in h
  unfold decOp decA decBb decC encI
  rw [inZ_yes]
  omega
theorem decB_enc {op a b c : Int} (h : insB op a b c = true) : decB (encI op a b c) = true := by
  obtain ⟨h1, h2, h3, h4, h5⟩ := dec_enc h
  unfold decB
  rw [h1, h2, h3, h4, h5, h]
  rfl
theorem enc_dec (n : Int) : encI (decOp n) (decA n) (decBb n) (decC n) = n := by
  unfold decOp decA decBb decC encI
  omega
end Go.Proofs.Ytmchgmpdhfefjaa

namespace Go.Proofs.Ytmchgmpdhfefjaa
open Go.RowKit

/-- A box: a block of these cells. -/
abbrev Box (w : World) (g : Nat) (cs : Array Value) (t : TypeId) : Prop := w.heap[g]? = some (.cells cs t (0, 0))

theorem Box.made (w : World) (cs : Array Value) (t : TypeId) : Box (w.alloc (.cells cs t)) w.heap.size cs t := heap_alloc_new w _
theorem Box.madeAt {w : World} {g : Nat} (hg : g = w.heap.size) (cs : Array Value) (t : TypeId) : Box (w.alloc (.cells cs t)) g cs t := by
  subst hg; exact heap_alloc_new w _
theorem Box.lt {w : World} {g : Nat} {cs : Array Value} {t : TypeId} (h : Box w g cs t) : g < w.heap.size := by
  rcases Nat.lt_or_ge g w.heap.size with hg | hg
  · exact hg
  · rw [Box, Array.getElem?_eq_none hg] at h; cases h
theorem Box.stays {w w' : World} {g : Nat} {cs : Array Value} {t : TypeId} (h : Box w g cs t) (hb : Below w.heap.size w w') : Box w' g cs t := (hb.block g h.lt).trans h
theorem Box.set {w : World} {g : Nat} {cs : Array Value} {t : TypeId} (h : Box w g cs t) (i : Nat) (v : Value) : Box (w.setCell ⟨g, i, none⟩ v) g (cs.setIfInBounds i v) t := by
  have h' : w.heap[g]? = some (.cells cs t (0, 0)) := h
  simp [Box, World.setCell, Array.getElem?_modify, h']
theorem Box.other {w : World} {g : Nat} {cs : Array Value} {t : TypeId} (h : Box w g cs t) (a : Addr) (v : Value) (ha : g ≠ a.block) : Box (w.setCell a v) g cs t :=
  (Below.heap_setCell w a v g ha).trans h
theorem Box.read {P : Program} {w : World} {g : Nat} {cs : Array Value} {t : TypeId} (h : Box w g cs t) (ty : TypeId) (d : TypeDesc) (hu : P.underlying ty = some d) (hd : d.isRow = true) (hi : (P.info? ty).map (·.size) = some cs.size) :
    (loadVar ty ⟨g, 0, none⟩).run P w = .ok (.agg cs) w := by
  have hl : (loadCells ⟨g, 0, none⟩ cs.size).run P w = .ok cs w := by
    have := run_loadCells_list (P := P) w ⟨g, 0, none⟩ cs.toList (fun j v hv => by
      have e : (⟨g, 0, none⟩ : Addr).add j = ⟨g, j, none⟩ := by
        simp only [Addr.add]
        split
        · next h => subst h; rfl
        · simp
      rw [e, Lib.cell_of_heap h j]
      simpa using hv)
    simpa using this
  cases hq : P.info? ty with
  | none => simp [hq] at hi
  | some i =>
    have hs : i.size = cs.size := by simpa [hq] using hi
    have hagg : (isAgg ty).run P w = .ok true w := by
      unfold isAgg
      rw [Sem.run_bind, run_underlying hu w]
      cases d <;> simp_all
    simp [loadVar, Sem.run_bind, hagg, sizeOf, typeInfo, hq, hs, hl]
theorem box_results {P : Program} {fn : Func} {p : Tmp} {ty : TypeId} (h : fn.results = #[.cell p ty]) (tmps : Array Value) (w : World) {a : Addr} (hp : tmps.getD p undef = .pointer (some a)) {v : Value} (hl : (loadVar ty a).run P w = .ok v w) :
    (results fn tmps).run P w = .ok v w := by
  have hp' : tmps[p]?.getD undef = .pointer (some a) := by simpa using hp
  simp only [results, h]
  simp [hp', asAddr, hl]
/-- A function whose one result is a struct in a box. -/
theorem box_ret {P : Program} {fn : Func} {p : Tmp} {ty : TypeId} {Q : Ending → World → Prop} {a : Act} {w : World} {g : Nat} {cs : Array Value} {t : TypeId} (hr : fn.results = #[.cell p ty]) (hp : a.tmps.getD p undef = .pointer (some ⟨g, 0, none⟩)) (hb : Box w g cs t)
    (d : TypeDesc) (hu : P.underlying ty = some d) (hd : d.isRow = true) (hi : (P.info? ty).map (·.size) = some cs.size) (hdf : a.defers = []) (h : Q (.returned (.agg cs)) w) : bodyPost P fn Q .ret a w :=
  bodyPost_ret (box_results hr a.tmps w hp (hb.read ty d hu hd hi)) hdf h
end Go.Proofs.Ytmchgmpdhfefjaa

namespace Go.Proofs.Ytmchgmpdhfefjaa
open Go.RowKit

/-- A struct in a box and a value. -/
theorem box_retV {P : Program} {fn : Func} {p q : Tmp} {ty : TypeId} {Q : Ending → World → Prop} {a : Act} {w : World} {g : Nat} {cs : Array Value} {t : TypeId} (hr : fn.results = #[.cell p ty, .tmp q]) (hp : a.tmps.getD p undef = .pointer (some ⟨g, 0, none⟩)) (hb : Box w g cs t)
    (d : TypeDesc) (hu : P.underlying ty = some d) (hd : d.isRow = true) (hi : (P.info? ty).map (·.size) = some cs.size) (hdf : a.defers = []) (h : Q (.returned (.tuple #[.agg cs, a.tmps.getD q undef])) w) : bodyPost P fn Q .ret a w := by
  refine bodyPost_ret (v := .tuple #[.agg cs, a.tmps.getD q undef]) ?_ hdf h
  have hl := hb.read ty d hu hd hi
  have hp' : a.tmps[p]?.getD undef = .pointer (some ⟨g, 0, none⟩) := by simpa using hp
  simp only [results, hr]
  simp [hp', asAddr, hl]
/-- A struct in a box and two values. -/
theorem box_retVV {P : Program} {fn : Func} {p q q' : Tmp} {ty : TypeId} {Q : Ending → World → Prop} {a : Act} {w : World} {g : Nat} {cs : Array Value} {t : TypeId} (hr : fn.results = #[.cell p ty, .tmp q, .tmp q']) (hp : a.tmps.getD p undef = .pointer (some ⟨g, 0, none⟩)) (hb : Box w g cs t)
    (d : TypeDesc) (hu : P.underlying ty = some d) (hd : d.isRow = true) (hi : (P.info? ty).map (·.size) = some cs.size) (hdf : a.defers = []) (h : Q (.returned (.tuple #[.agg cs, a.tmps.getD q undef, a.tmps.getD q' undef])) w) : bodyPost P fn Q .ret a w := by
  refine bodyPost_ret (v := .tuple #[.agg cs, a.tmps.getD q undef, a.tmps.getD q' undef]) ?_ hdf h
  have hl := hb.read ty d hu hd hi
  have hp' : a.tmps[p]?.getD undef = .pointer (some ⟨g, 0, none⟩) := by simpa using hp
  simp only [results, hr]
  simp [hp', asAddr, hl]
/-- Two structs in boxes. -/
theorem box_retBB {P : Program} {fn : Func} {p p' : Tmp} {ty ty' : TypeId} {Q : Ending → World → Prop} {a : Act} {w : World} {g g' : Nat} {cs cs' : Array Value} {t t' : TypeId} (hr : fn.results = #[.cell p ty, .cell p' ty']) (hp : a.tmps.getD p undef = .pointer (some ⟨g, 0, none⟩)) (hq : a.tmps.getD p' undef = .pointer (some ⟨g', 0, none⟩)) (hb : Box w g cs t) (hb' : Box w g' cs' t')
    (d d' : TypeDesc) (hu : P.underlying ty = some d) (hu' : P.underlying ty' = some d') (hd : d.isRow = true) (hd' : d'.isRow = true) (hi : (P.info? ty).map (·.size) = some cs.size) (hi' : (P.info? ty').map (·.size) = some cs'.size) (hdf : a.defers = []) (h : Q (.returned (.tuple #[.agg cs, .agg cs'])) w) : bodyPost P fn Q .ret a w := by
  refine bodyPost_ret (v := .tuple #[.agg cs, .agg cs']) ?_ hdf h
  have hl := hb.read ty d hu hd hi
  have hl' := hb'.read ty' d' hu' hd' hi'
  have hp' : a.tmps[p]?.getD undef = .pointer (some ⟨g, 0, none⟩) := by simpa using hp
  have hq' : a.tmps[p']?.getD undef = .pointer (some ⟨g', 0, none⟩) := by simpa using hq
  simp only [results, hr]
  simp [hp', hq', asAddr, hl, hl']
end Go.Proofs.Ytmchgmpdhfefjaa

namespace Go.Proofs.Ytmchgmpdhfefjaa
open Go.RowKit

theorem specInI (n lo hi : Int) (w : World) : Calls Try.prog 34 #[.int .i64 n, .int .i64 lo, .int .i64 hi] w fun e w' => e = .returned (.bool (inZ lo hi n)) ∧ w = w' := by
  refine (specIn n lo hi w).mono ?_
  rintro e w' ⟨rfl, rfl⟩
  refine ⟨?_, rfl⟩
  congr 2
  by_cases h1 : lo ≤ n <;> by_cases h2 : n ≤ hi <;> simp [inZ, h1, h2]

set_option maxRecDepth 100000 in
set_option maxHeartbeats 8000000 in
theorem specInsOk_any (op a b c : Int) (w : World) :
    Calls Try.prog 35 #[.agg #[.int .i64 op, .int .i64 a, .int .i64 b, .int .i64 c]] w fun e w' => e = .returned (.bool (insB op a b c)) ∧ w' = w.alloc (.cells #[.int .i64 op, .int .i64 a, .int .i64 b, .int .i64 c] 34) := by
  have CI := fun lo hi x z => hide (specInI x lo hi z)
  have RB : Hid (insB op a b c = (inZ 1 10 op && inZ 0 7 a && inZ 0 7 b && inZ 0 4194303 c && insTwo op b && insArgs op a b c)) := rfl
  obtain ⟨r, er⟩ : ∃ r, insB op a b c = r := ⟨_, rfl⟩
  rw [er] at RB ⊢
  clear er
  by_cases h1 : inZ 1 10 op = true
  case neg =>
    replace h1 : inZ 1 10 op = false := by simpa using h1
    obtain rfl : r = false := by rw [RB.out]; simp [h1]
    go_enter Try.func35, Try.ntmps35
    go_wp2_with (go_at_call 34; refine (unhide (CI _ _ _ _)).mono ?_; rintro e z ⟨rfl, rfl⟩)
    go_ret
    exact ⟨rfl, rfl⟩
  by_cases h2 : inZ 0 7 a = true
  case neg =>
    replace h2 : inZ 0 7 a = false := by simpa using h2
    obtain rfl : r = false := by rw [RB.out]; simp [h1, h2]
    go_enter Try.func35, Try.ntmps35
    go_wp2_with (go_at_call 34; refine (unhide (CI _ _ _ _)).mono ?_; rintro e z ⟨rfl, rfl⟩)
    go_ret
    exact ⟨rfl, rfl⟩
  by_cases h3 : inZ 0 7 b = true
  case neg =>
    replace h3 : inZ 0 7 b = false := by simpa using h3
    obtain rfl : r = false := by rw [RB.out]; simp [h1, h2, h3]
    go_enter Try.func35, Try.ntmps35
    go_wp2_with (go_at_call 34; refine (unhide (CI _ _ _ _)).mono ?_; rintro e z ⟨rfl, rfl⟩)
    go_ret
    exact ⟨rfl, rfl⟩
  by_cases h4 : inZ 0 4194303 c = true
  case neg =>
    replace h4 : inZ 0 4194303 c = false := by simpa using h4
    obtain rfl : r = false := by rw [RB.out]; simp [h1, h2, h3, h4]
    go_enter Try.func35, Try.ntmps35
    go_wp2_with (go_at_call 34; refine (unhide (CI _ _ _ _)).mono ?_; rintro e z ⟨rfl, rfl⟩)
    go_ret
    exact ⟨rfl, rfl⟩
  have hop := inZ_yes.1 h1
  by_cases e1 : op = 1
  · subst e1
    clear hop
    by_cases hb : b = 0
    case neg =>
      obtain rfl : r = false := by rw [RB.out]; simp [h1, h2, h3, h4, insTwo, hb]
      go_enter Try.func35, Try.ntmps35
      go_wp2_with (go_at_call 34; refine (unhide (CI _ _ _ _)).mono ?_; rintro e z ⟨rfl, rfl⟩)
      go_ret
      exact ⟨rfl, rfl⟩
    subst hb
    obtain rfl : r = decide (c ≤ 1000000) := by rw [RB.out]; simp [h1, h2, h3, h4, insTwo, insArgs]
    go_enter Try.func35, Try.ntmps35
    go_wp2_with (go_at_call 34; refine (unhide (CI _ _ _ _)).mono ?_; rintro e z ⟨rfl, rfl⟩)
    go_ret
    exact ⟨rfl, rfl⟩
  by_cases e2 : op = 2
  · subst e2
    clear hop
    by_cases hb : b = 0
    case neg =>
      obtain rfl : r = false := by rw [RB.out]; simp [h1, h2, h3, h4, insTwo, hb]
      go_enter Try.func35, Try.ntmps35
      go_wp2_with (go_at_call 34; refine (unhide (CI _ _ _ _)).mono ?_; rintro e z ⟨rfl, rfl⟩)
      go_ret
      exact ⟨rfl, rfl⟩
    subst hb
    obtain rfl : r = true := by rw [RB.out]; simp [h1, h2, h3, h4, insTwo, insArgs]
    go_enter Try.func35, Try.ntmps35
    go_wp2_with (go_at_call 34; refine (unhide (CI _ _ _ _)).mono ?_; rintro e z ⟨rfl, rfl⟩)
    go_ret
    exact ⟨rfl, rfl⟩
  by_cases e3 : op = 3
  · subst e3
    clear hop
    by_cases hb : b = 0
    case neg =>
      obtain rfl : r = false := by rw [RB.out]; simp [h1, h2, h3, h4, insTwo, hb]
      go_enter Try.func35, Try.ntmps35
      go_wp2_with (go_at_call 34; refine (unhide (CI _ _ _ _)).mono ?_; rintro e z ⟨rfl, rfl⟩)
      go_ret
      exact ⟨rfl, rfl⟩
    subst hb
    obtain rfl : r = true := by rw [RB.out]; simp [h1, h2, h3, h4, insTwo, insArgs]
    go_enter Try.func35, Try.ntmps35
    go_wp2_with (go_at_call 34; refine (unhide (CI _ _ _ _)).mono ?_; rintro e z ⟨rfl, rfl⟩)
    go_ret
    exact ⟨rfl, rfl⟩
  by_cases e4 : op = 4
  · subst e4
    clear hop
    by_cases hc : inZ 1 9 c = true
    case neg =>
      replace hc : inZ 1 9 c = false := by simpa using hc
      obtain rfl : r = false := by rw [RB.out]; simp [h1, h2, h3, h4, insTwo, insArgs, hc]
      go_enter Try.func35, Try.ntmps35
      go_wp2_with (go_at_call 34; refine (unhide (CI _ _ _ _)).mono ?_; rintro e z ⟨rfl, rfl⟩)
      go_ret
      exact ⟨rfl, rfl⟩
    obtain rfl : r = true := by rw [RB.out]; simp [h1, h2, h3, h4, insTwo, insArgs, hc]
    go_enter Try.func35, Try.ntmps35
    go_wp2_with (go_at_call 34; refine (unhide (CI _ _ _ _)).mono ?_; rintro e z ⟨rfl, rfl⟩)
    go_ret
    exact ⟨rfl, rfl⟩
  by_cases e5 : op = 5
  · subst e5
    clear hop
    by_cases hb : b = 0
    case neg =>
      obtain rfl : r = false := by rw [RB.out]; simp [h1, h2, h3, h4, insTwo, hb]
      go_enter Try.func35, Try.ntmps35
      go_wp2_with (go_at_call 34; refine (unhide (CI _ _ _ _)).mono ?_; rintro e z ⟨rfl, rfl⟩)
      go_ret
      exact ⟨rfl, rfl⟩
    subst hb
    obtain rfl : r = (c == 0) := by rw [RB.out]; simp [h1, h2, h3, h4, insTwo, insArgs]
    go_enter Try.func35, Try.ntmps35
    go_wp2_with (go_at_call 34; refine (unhide (CI _ _ _ _)).mono ?_; rintro e z ⟨rfl, rfl⟩)
    go_ret
    exact ⟨rfl, rfl⟩
  by_cases e6 : op = 6
  · subst e6
    clear hop
    by_cases hb : b = 0
    case neg =>
      obtain rfl : r = false := by rw [RB.out]; simp [h1, h2, h3, h4, insTwo, hb]
      go_enter Try.func35, Try.ntmps35
      go_wp2_with (go_at_call 34; refine (unhide (CI _ _ _ _)).mono ?_; rintro e z ⟨rfl, rfl⟩)
      go_ret
      exact ⟨rfl, rfl⟩
    subst hb
    obtain rfl : r = (c == 0) := by rw [RB.out]; simp [h1, h2, h3, h4, insTwo, insArgs]
    go_enter Try.func35, Try.ntmps35
    go_wp2_with (go_at_call 34; refine (unhide (CI _ _ _ _)).mono ?_; rintro e z ⟨rfl, rfl⟩)
    go_ret
    exact ⟨rfl, rfl⟩
  by_cases e7 : op = 7
  · subst e7
    clear hop
    by_cases hb : b = 0
    case neg =>
      obtain rfl : r = false := by rw [RB.out]; simp [h1, h2, h3, h4, insTwo, hb]
      go_enter Try.func35, Try.ntmps35
      go_wp2_with (go_at_call 34; refine (unhide (CI _ _ _ _)).mono ?_; rintro e z ⟨rfl, rfl⟩)
      go_ret
      exact ⟨rfl, rfl⟩
    subst hb
    obtain rfl : r = true := by rw [RB.out]; simp [h1, h2, h3, h4, insTwo, insArgs]
    go_enter Try.func35, Try.ntmps35
    go_wp2_with (go_at_call 34; refine (unhide (CI _ _ _ _)).mono ?_; rintro e z ⟨rfl, rfl⟩)
    go_ret
    exact ⟨rfl, rfl⟩
  by_cases e8 : op = 8
  · subst e8
    clear hop
    by_cases hb : b = 0
    case neg =>
      obtain rfl : r = false := by rw [RB.out]; simp [h1, h2, h3, h4, insTwo, hb]
      go_enter Try.func35, Try.ntmps35
      go_wp2_with (go_at_call 34; refine (unhide (CI _ _ _ _)).mono ?_; rintro e z ⟨rfl, rfl⟩)
      go_ret
      exact ⟨rfl, rfl⟩
    subst hb
    obtain rfl : r = (a == 0) := by rw [RB.out]; simp [h1, h2, h3, h4, insTwo, insArgs]
    go_enter Try.func35, Try.ntmps35
    go_wp2_with (go_at_call 34; refine (unhide (CI _ _ _ _)).mono ?_; rintro e z ⟨rfl, rfl⟩)
    go_ret
    exact ⟨rfl, rfl⟩
  by_cases e9 : op = 9
  · subst e9
    clear hop
    by_cases hb : b = 0
    case neg =>
      obtain rfl : r = false := by rw [RB.out]; simp [h1, h2, h3, h4, insTwo, hb]
      go_enter Try.func35, Try.ntmps35
      go_wp2_with (go_at_call 34; refine (unhide (CI _ _ _ _)).mono ?_; rintro e z ⟨rfl, rfl⟩)
      go_ret
      exact ⟨rfl, rfl⟩
    subst hb
    obtain rfl : r = true := by rw [RB.out]; simp [h1, h2, h3, h4, insTwo, insArgs]
    go_enter Try.func35, Try.ntmps35
    go_wp2_with (go_at_call 34; refine (unhide (CI _ _ _ _)).mono ?_; rintro e z ⟨rfl, rfl⟩)
    go_ret
    exact ⟨rfl, rfl⟩
  by_cases e10 : op = 10
  · subst e10
    clear hop
    by_cases hc : inZ 1 7 a = true
    case neg =>
      replace hc : inZ 1 7 a = false := by simpa using hc
      obtain rfl : r = false := by rw [RB.out]; simp [h1, h2, h3, h4, insTwo, insArgs, hc]
      go_enter Try.func35, Try.ntmps35
      go_wp2_with (go_at_call 34; refine (unhide (CI _ _ _ _)).mono ?_; rintro e z ⟨rfl, rfl⟩)
      go_ret
      exact ⟨rfl, rfl⟩
    obtain rfl : r = (b == 0) := by rw [RB.out]; simp [h1, h2, h3, h4, insTwo, insArgs, hc]
    go_enter Try.func35, Try.ntmps35
    go_wp2_with (go_at_call 34; refine (unhide (CI _ _ _ _)).mono ?_; rintro e z ⟨rfl, rfl⟩)
    go_ret
    exact ⟨rfl, rfl⟩
  omega
end Go.Proofs.Ytmchgmpdhfefjaa
