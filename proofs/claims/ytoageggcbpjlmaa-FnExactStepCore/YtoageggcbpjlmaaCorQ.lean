/-
  What a core does with a word: as functions; a core and its memory under way.
-/
import Derived.Test.YtoageggcbpjlmaaCorP
import Derived.Test.YtoageggcbpjlmaaMakP
namespace Go.Proofs.Ytoageggcbpjlmaa
open Go.RowKit

def negN (a : Int) : Int := if vok a = true then -a else 0
def negF (a : Int) : Int := if vok a = true then 0 else 1
theorem negV_two (a : Int) : negV a = two (negN a) (negF a) := by unfold negV negN negF; split <;> rfl
def regAt (x : Co) (a : Int) : Int := x.regs.getD a.toNat 0
/-- What comes out, and what went wrong. -/
def calcN (x : Co) (i : In4) : Int :=
  if i.op = 1 then i.c else if i.op = 4 then calcX i.c (regAt x i.a) (regAt x i.b) else if i.op = 5 then (if regAt x i.a = 0 then 1 else 0) else if i.op = 6 then negN (regAt x i.a) else regAt x i.a
def calcF (x : Co) (i : In4) : Int :=
  if i.op = 1 then 0 else if i.op = 4 then calcY i.c (regAt x i.a) (regAt x i.b) else if i.op = 5 then 0 else if i.op = 6 then negF (regAt x i.a) else 0
def stepCalc (x : Co) (i : In4) : Co × Int :=
  if calcF x i = 0 then ({ x with regs := x.regs.set i.a.toNat (calcN x i), pc := x.pc + 1 }, 0) else (x, calcF x i)
def stepMem (x : Co) (i : In4) (mem : List Int) : Co × List Int × Int :=
  if inZ 0 ((mem.length : Int) - 1) i.c = true then
    (if i.op = 3 then ({ x with pc := x.pc + 1 }, mem.set i.c.toNat (regAt x i.a), 0)
     else if vok (mem.getD i.c.toNat 0) = true then
       ({ x with regs := x.regs.set i.a.toNat (mem.getD i.c.toNat 0), pc := x.pc + 1 }, if i.op = 9 then mem.set i.c.toNat 1 else mem, 0)
     else (x, mem, 4))
  else (x, mem, 4)
def stepIns (x : Co) (i : In4) (mem : List Int) : Co × List Int × Int :=
  if i.op = 2 ∨ i.op = 3 ∨ i.op = 9 then stepMem x i mem
  else if i.op = 7 then ({ x with pc := if regAt x i.a = 0 then i.c else x.pc + 1 }, mem, 0)
  else if i.op = 8 then ({ x with pc := i.c }, mem, 0)
  else if i.op = 10 then ({ x with pc := x.pc + 1 }, mem, 10)
  else ((stepCalc x i).1, mem, (stepCalc x i).2)
def stepE (x : Co) (text mem : List Int) : Co × List Int × Int :=
  if coreOkB x = true ∧ inZ 0 ((text.length : Int) - 1) x.pc = true ∧ decB (text.getD x.pc.toNat 0) = true then stepIns x (decE (text.getD x.pc.toNat 0)) mem else (x, mem, 4)

/-- A core in its box G and its memory, under way. -/
structure CsZ (B G : Nat) (r mv : Value) (x : Co) (mem : List Int) (z : World) : Prop where
  bO : Box z G #[r, .int .i64 x.pc, .int .i64 x.process] 24
  ro : z.ownsRow B 3 1 r x.regs.length (x.regs.map I64)
  mo : z.ownsRow B 3 1 mv mem.length (mem.map I64)
  ap : ∀ i, r.ownBlock = some i → mv.ownBlock ≠ some i
  hB : B ≤ G
theorem CsZ.stays {B G : Nat} {r mv : Value} {x : Co} {mem : List Int} {z z' : World} (h : CsZ B G r mv x mem z) (hb : Below z.heap.size z z') : CsZ B G r mv x mem z' :=
  ⟨h.bO.stays hb, owns_eq h.ro fun k hk => hb.block k (h.ro.lt k hk).2, owns_eq h.mo fun k hk => hb.block k (h.mo.lt k hk).2, h.ap, h.hB⟩
theorem CsZ.setPc {B G : Nat} {r mv : Value} {x : Co} {mem : List Int} {z : World} (h : CsZ B G r mv x mem z) (p : Int) : CsZ B G r mv { x with pc := p } mem (z.setCell ⟨G, 1, none⟩ (.int .i64 p)) := by
  refine ⟨by simpa using h.bO.set 1 (.int .i64 p), ?_, ?_, h.ap, h.hB⟩
  · exact owns_eq h.ro fun k hk => Below.heap_setCell _ ⟨G, 1, none⟩ _ k (fun e => Lib.ownBlock_ne h.ro h.bO (by decide) (by rw [hk, show k = G from e]))
  · exact owns_eq h.mo fun k hk => Below.heap_setCell _ ⟨G, 1, none⟩ _ k (fun e => Lib.ownBlock_ne h.mo h.bO (by decide) (by rw [hk, show k = G from e]))
theorem CsZ.setReg {B G q c i : Nat} {mv : Value} {x : Co} {mem : List Int} {z : World} (h : CsZ B G (.slice (some ⟨q, 0, none⟩) x.regs.length c) mv x mem z) (n : Int) :
    CsZ B G (.slice (some ⟨q, 0, none⟩) x.regs.length c) mv { x with regs := x.regs.set i n } mem (z.setCell ⟨q, i, none⟩ (.int .i64 n)) := by
  have hGq : G ≠ q := fun e => Lib.ownBlock_ne h.ro h.bO (by decide) (by rw [e]; rfl)
  refine ⟨h.bO.other _ _ (by show G ≠ q; exact hGq), ?_, ?_, h.ap, h.hB⟩
  · have h9 := (h.ro.stored i (.int .i64 n)).1
    show World.ownsRow _ _ _ _ _ (x.regs.set i n).length ((x.regs.set i n).map I64)
    rw [List.length_set, List.map_set]
    exact h9
  · exact owns_eq h.mo fun k hk => Below.heap_setCell _ ⟨q, i, none⟩ _ k (fun e => h.ap q rfl (by rw [hk, show k = q from e]))
theorem CsZ.setMem {B G q c i : Nat} {r : Value} {x : Co} {mem : List Int} {z : World} (h : CsZ B G r (.slice (some ⟨q, 0, none⟩) mem.length c) x mem z) (n : Int) :
    CsZ B G r (.slice (some ⟨q, 0, none⟩) mem.length c) x (mem.set i n) (z.setCell ⟨q, i, none⟩ (.int .i64 n)) := by
  have hGq : G ≠ q := fun e => Lib.ownBlock_ne h.mo h.bO (by decide) (by rw [e]; rfl)
  refine ⟨h.bO.other _ _ (by show G ≠ q; exact hGq), ?_, ?_, h.ap, h.hB⟩
  · exact owns_eq h.ro fun k hk => Below.heap_setCell _ ⟨q, i, none⟩ _ k (fun e => h.ap k hk (by rw [show k = q from e]; rfl))
  · have h9 := (h.mo.stored i (.int .i64 n)).1
    show World.ownsRow _ _ _ _ _ (mem.set i n).length ((mem.set i n).map I64)
    rw [List.length_set, List.map_set]
    exact h9
theorem own_form {B n : Nat} {w : World} {v : Value} {xs : List Value} (h : w.ownsRow B 3 1 v n xs) (hn : 0 < n) : ∃ q c, v = .slice (some ⟨q, 0, none⟩) n c ∧ B ≤ q := by
  rcases h.2 with ⟨e, h0⟩ | ⟨g, cap, cur, e, hg, _⟩
  · omega
  · exact ⟨g, cap, e, hg⟩
theorem own_cell {B n q c : Nat} {w : World} {xs : List Int} (h : w.ownsRow B 3 1 (.slice (some ⟨q, 0, none⟩) n c) n (xs.map I64)) {i : Nat} (hi : i < n) : w.cell? ⟨q, i, none⟩ = some (.int .i64 (xs.getD i 0)) ∧ w.frozen? ⟨q, i, none⟩ = false := by
  have hx : xs.length = n := by have := h.1; simpa using this
  have h9 := h.cellAt i (by omega)
  rw [List.getElem?_map, List.getElem?_eq_getElem (by omega)] at h9
  refine ⟨by rw [List.getD_eq_getElem?_getD, List.getElem?_eq_getElem (by omega)]; exact h9, ?_⟩
  have h8 := (own_there h i (by omega) 0 (by decide)).2
  rw [Nat.mul_one, Nat.add_zero] at h8
  exact h8
end Go.Proofs.Ytoageggcbpjlmaa
