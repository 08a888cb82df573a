/-
  What a core does with a word: as functions; a core and its memory under way.
-/
import Derived.Test.YtmchgmpdhfefjaaFlC
import Derived.Test.YtmchgmpdhfefjaaCalcS
import Derived.Test.YtmchgmpdhfefjaaCorW
import Derived.Test.YtmchgmpdhfefjaaChecked
import Derived.Test.YtmchgmpdhfefjaaAid
import Derived.WalkSmall
namespace Go.Proofs.Ytmchgmpdhfefjaa
open Go.RowKit

def negN (a : Int) : Int := if vok a = true then -a else 0
def negF (a : Int) : Int := if vok a = true then 0 else 1
theorem negV_two (a : Int) : negV a = two (negN a) (negF a) := by unfold negV negN negF; split <;> rfl
def regAt (x : Co) (a : Int) : Int := x.regs.getD a.toNat 0
/-- What comes out, and what went wrong. -/
def calcN (x : Co) (i : In4) : Int :=
  if i.op = 1 then i.c else if i.op = 4 then calcX i.c (regAt x i.a) (regAt x i.b) else if i.op = 5 then (if regAt x i.a = 0 then 1 else 0) else if i.op = 6 then negN (regAt x i.a) else regAt x i.a
def calcF (x : Co) (i : In4) : Int :=
  if i.op = 1 then 0 else if i.op = 4 then calcY i.c (regAt x i.a) (regAt x i.b) else if i.op = 5 then 0 else if i.op = 6 then negF (regAt x i.a) else 0
def stepCalc (x : Co) (i : In4) : Co × Int :=
  if calcF x i = 0 then ({ x with regs := x.regs.set i.a.toNat (calcN x i), pc := x.pc + 1 }, 0) else (x, calcF x i)
def stepMem (x : Co) (i : In4) (mem : List Int) : Co × List Int × Int :=
  if inZ 0 ((mem.length : Int) - 1) i.c = true then
    (if i.op = 3 then ({ x with pc := x.pc + 1 }, mem.set i.c.toNat (regAt x i.a), 0)
     else if vok (mem.getD i.c.toNat 0) = true then
       ({ x with regs := x.regs.set i.a.toNat (mem.getD i.c.toNat 0), pc := x.pc + 1 }, if i.op = 9 then mem.set i.c.toNat 1 else mem, 0)
     else (x, mem, 4))
  else (x, mem, 4)
def stepIns (x : Co) (i : In4) (mem : List Int) : Co × List Int × Int :=
  if i.op = 2 ∨ i.op = 3 ∨ i.op = 9 then stepMem x i mem
  else if i.op = 7 then ({ x with pc := if regAt x i.a = 0 then i.c else x.pc + 1 }, mem, 0)
  else if i.op = 8 then ({ x with pc := i.c }, mem, 0)
  else if i.op = 10 then ({ x with pc := x.pc + 1 }, mem, 10)
  else ((stepCalc x i).1, mem, (stepCalc x i).2)
def stepE (x : Co) (text mem : List Int) : Co × List Int × Int :=
  if coreOkB x = true ∧ inZ 0 ((text.length : Int) - 1) x.pc = true ∧ decB (text.getD x.pc.toNat 0) = true then stepIns x (decE (text.getD x.pc.toNat 0)) mem else (x, mem, 4)

/-- A core in its box G and its memory, under way. -/
structure CsZ (B G : Nat) (r mv : Value) (x : Co) (mem : List Int) (z : World) : Prop where
  bO : Box z G #[r, .int .i64 x.pc, .int .i64 x.process] 26
  ro : z.ownsRow B 3 1 r x.regs.length (x.regs.map I64)
  mo : z.ownsRow B 3 1 mv mem.length (mem.map I64)
  ap : ∀ i, r.ownBlock = some i → mv.ownBlock ≠ some i
  hB : B ≤ G
theorem CsZ.stays {B G : Nat} {r mv : Value} {x : Co} {mem : List Int} {z z' : World} (h : CsZ B G r mv x mem z) (hb : Below z.heap.size z z') : CsZ B G r mv x mem z' :=
  ⟨h.bO.stays hb, owns_eq h.ro fun k hk => hb.block k (h.ro.lt k hk).2, owns_eq h.mo fun k hk => hb.block k (h.mo.lt k hk).2, h.ap, h.hB⟩
theorem CsZ.setPc {B G : Nat} {r mv : Value} {x : Co} {mem : List Int} {z : World} (h : CsZ B G r mv x mem z) (p : Int) : CsZ B G r mv { x with pc := p } mem (z.setCell ⟨G, 1, none⟩ (.int .i64 p)) := by
  refine ⟨by simpa using h.bO.set 1 (.int .i64 p), ?_, ?_, h.ap, h.hB⟩
  · exact owns_eq h.ro fun k hk => Below.heap_setCell _ ⟨G, 1, none⟩ _ k (fun e => Lib.ownBlock_ne h.ro h.bO (by decide) (by rw [hk, show k = G from e]))
  · exact owns_eq h.mo fun k hk => Below.heap_setCell _ ⟨G, 1, none⟩ _ k (fun e => Lib.ownBlock_ne h.mo h.bO (by decide) (by rw [hk, show k = G from e]))
theorem CsZ.setReg {B G q c i : Nat} {mv : Value} {x : Co} {mem : List Int} {z : World} (h : CsZ B G (.slice (some ⟨q, 0, none⟩) x.regs.length c) mv x mem z) (n : Int) :
    CsZ B G (.slice (some ⟨q, 0, none⟩) x.regs.length c) mv { x with regs := x.regs.set i n } mem (z.setCell ⟨q, i, none⟩ (.int .i64 n)) := by
  have hGq : G ≠ q := fun e => Lib.ownBlock_ne h.ro h.bO (by decide) (by rw [e]; rfl)
  refine ⟨h.bO.other _ _ (by show G ≠ q; exact hGq), ?_, ?_, h.ap, h.hB⟩
  · have h9 := (h.ro.stored i (.int .i64 n)).1
    show World.ownsRow _ _ _ _ _ (x.regs.set i n).length ((x.regs.set i n).map I64)
    rw [List.length_set, List.map_set]
    exact h9
  · exact owns_eq h.mo fun k hk => Below.heap_setCell _ ⟨q, i, none⟩ _ k (fun e => h.ap q rfl (by rw [hk, show k = q from e]))
theorem CsZ.setMem {B G q c i : Nat} {r : Value} {x : Co} {mem : List Int} {z : World} (h : CsZ B G r (.slice (some ⟨q, 0, none⟩) mem.length c) x mem z) (n : Int) :
    CsZ B G r (.slice (some ⟨q, 0, none⟩) mem.length c) x (mem.set i n) (z.setCell ⟨q, i, none⟩ (.int .i64 n)) := by
  have hGq : G ≠ q := fun e => Lib.ownBlock_ne h.mo h.bO (by decide) (by rw [e]; rfl)
  refine ⟨h.bO.other _ _ (by show G ≠ q; exact hGq), ?_, ?_, h.ap, h.hB⟩
  · exact owns_eq h.ro fun k hk => Below.heap_setCell _ ⟨q, i, none⟩ _ k (fun e => h.ap k hk (by rw [show k = q from e]; rfl))
  · have h9 := (h.mo.stored i (.int .i64 n)).1
    show World.ownsRow _ _ _ _ _ (mem.set i n).length ((mem.set i n).map I64)
    rw [List.length_set, List.map_set]
    exact h9
theorem own_form {B n : Nat} {w : World} {v : Value} {xs : List Value} (h : w.ownsRow B 3 1 v n xs) (hn : 0 < n) : ∃ q c, v = .slice (some ⟨q, 0, none⟩) n c ∧ B ≤ q := by
  rcases h.2 with ⟨e, h0⟩ | ⟨g, cap, cur, e, hg, _⟩
  · omega
  · exact ⟨g, cap, e, hg⟩
theorem own_cell {B n q c : Nat} {w : World} {xs : List Int} (h : w.ownsRow B 3 1 (.slice (some ⟨q, 0, none⟩) n c) n (xs.map I64)) {i : Nat} (hi : i < n) : w.cell? ⟨q, i, none⟩ = some (.int .i64 (xs.getD i 0)) ∧ w.frozen? ⟨q, i, none⟩ = false := by
  have hx : xs.length = n := by have := h.1; simpa using this
  have h9 := h.cellAt i (by omega)
  rw [List.getElem?_map, List.getElem?_eq_getElem (by omega)] at h9
  refine ⟨by rw [List.getD_eq_getElem?_getD, List.getElem?_eq_getElem (by omega)]; exact h9, ?_⟩
  have h8 := (own_there h i (by omega) 0 (by decide)).2
  rw [Nat.mul_one, Nat.add_zero] at h8
  exact h8
end Go.Proofs.Ytmchgmpdhfefjaa

namespace Go.Proofs.Ytmchgmpdhfefjaa
open Go.RowKit

theorem decE_parts {n : Int} (h : decB n = true) : (1 ≤ (decE n).op ∧ (decE n).op ≤ 10) ∧ (0 ≤ (decE n).a ∧ (decE n).a ≤ 7) ∧ (0 ≤ (decE n).b ∧ (decE n).b ≤ 7) ∧ (0 ≤ (decE n).c ∧ (decE n).c ≤ 4194303) := by
  have h2 : insB (decOp n) (decA n) (decBb n) (decC n) = true := by
    unfold decB at h
    rw [Bool.and_eq_true] at h
    exact h.2
  unfold decE
  rw [if_pos h]
  exact insB_in h2
theorem calcY_small (op a b : Int) : calcY op a b = 0 ∨ calcY op a b = 1 ∨ calcY op a b = 2 := by
  unfold calcY
  split
  · split
    · exact Or.inr (Or.inr rfl)
    · split
      · exact Or.inl rfl
      · exact Or.inr (Or.inl rfl)
  · exact Or.inr (Or.inl rfl)
theorem calcF_small (x : Co) (i : In4) : calcF x i = 0 ∨ calcF x i = 1 ∨ calcF x i = 2 := by
  unfold calcF
  split
  · exact Or.inl rfl
  · split
    · exact calcY_small _ _ _
    · split
      · exact Or.inl rfl
      · split
        · unfold negF
          split
          · exact Or.inl rfl
          · exact Or.inr (Or.inl rfl)
        · exact Or.inl rfl

/-- What a step changes. -/
structure StepOk (x : Co) (text mem : List Int) (i : In4) (y : Co) (m : List Int) : Prop where
  n8 : x.regs.length = 8
  pc : 0 ≤ x.pc ∧ x.pc < (text.length : Int)
  dec : decE (text.getD x.pc.toNat 0) = i
  ina : 0 ≤ i.a ∧ i.a ≤ 7
  inc : 0 ≤ i.c
  reg : ∀ j : Nat, y.regs.getD j 0 ≠ x.regs.getD j 0 → (j : Int) = i.a
  mem : ∀ j : Nat, m.getD j 0 ≠ mem.getD j 0 → (j : Int) = i.c ∧ (i.op = 3 ∨ i.op = 9)
  to : y.pc = x.pc + 1 ∨ ((i.op = 7 ∨ i.op = 8) ∧ y.pc = i.c)
  y8 : y.regs.length = 8

theorem getD_set_ne (xs : List Int) (k : Nat) (v : Int) (j : Nat) (h : (xs.set k v).getD j 0 ≠ xs.getD j 0) : j = k := by
  apply Classical.byContradiction
  intro hne
  apply h
  rw [List.getD_eq_getElem?_getD, List.getD_eq_getElem?_getD, List.getElem?_set_ne (fun e => hne e.symm)]
theorem set_at (xs : List Int) (a v : Int) (ha : 0 ≤ a) (j : Nat) (h : (xs.set a.toNat v).getD j 0 ≠ xs.getD j 0) : (j : Int) = a := by
  have := getD_set_ne _ _ _ _ h
  omega

theorem stepE_len (x : Co) (text mem : List Int) : (stepE x text mem).2.1.length = mem.length := by
  unfold stepE
  split
  · unfold stepIns
    split
    · unfold stepMem
      split
      · split
        · simp
        · split
          · dsimp only
            split <;> simp
          · rfl
      · rfl
    · split
      · rfl
      · split
        · rfl
        · split <;> rfl
  · rfl
theorem stepE_regs (x : Co) (text mem : List Int) : (stepE x text mem).1.regs.length = x.regs.length := by
  unfold stepE
  split
  · unfold stepIns
    split
    · unfold stepMem
      split
      · split
        · rfl
        · split
          · simp
          · rfl
      · rfl
    · split
      · rfl
      · split
        · rfl
        · split
          · rfl
          · unfold stepCalc
            split <;> simp
  · rfl
theorem stepE_no (x : Co) (text mem : List Int) (h0 : (stepE x text mem).2.2 ≠ 0) (h1 : (stepE x text mem).2.2 ≠ 10) : (stepE x text mem).1 = x ∧ (stepE x text mem).2.1 = mem := by
  unfold stepE at *
  split at h0
  · next hc =>
    rw [if_pos hc] at h1 ⊢
    unfold stepIns at *
    split at h0
    · next h2 =>
      rw [if_pos h2] at h1 ⊢
      unfold stepMem at *
      split at h0
      · next h3 =>
        rw [if_pos h3] at h1 ⊢
        split at h0
        · exact absurd rfl h0
        · next h4 =>
          rw [if_neg h4] at h1 ⊢
          split at h0
          · exact absurd rfl h0
          · next h5 =>
            rw [if_neg h5]
            exact ⟨rfl, rfl⟩
      · next h3 =>
        rw [if_neg h3]
        exact ⟨rfl, rfl⟩
    · next h2 =>
      rw [if_neg h2] at h1 ⊢
      split at h0
      · exact absurd rfl h0
      · next h3 =>
        rw [if_neg h3] at h1 ⊢
        split at h0
        · exact absurd rfl h0
        · next h4 =>
          rw [if_neg h4] at h1 ⊢
          split at h0
          · next h5 =>
            rw [if_pos h5] at h1
            exact absurd rfl h1
          · next h5 =>
            rw [if_neg h5]
            unfold stepCalc at *
            split at h0
            · exact absurd rfl h0
            · next h6 =>
              rw [if_neg h6]
              exact ⟨rfl, rfl⟩
  · next hc =>
    rw [if_neg hc]
    exact ⟨rfl, rfl⟩
theorem stepE_yes (x : Co) (text mem : List Int) (h : (stepE x text mem).2.2 = 0 ∨ (stepE x text mem).2.2 = 10) : StepOk x text mem (decE (text.getD x.pc.toNat 0)) (stepE x text mem).1 (stepE x text mem).2.1 := by
  have hregs := stepE_regs x text mem
  unfold stepE at *
  split at h
  · next hc =>
    rw [if_pos hc] at hregs ⊢
    obtain ⟨c1, c2, c3⟩ := hc
    have hp := decE_parts c3
    rw [inZ_yes] at c2
    have h8 : x.regs.length = 8 := by
      unfold coreOkB at c1
      simp only [Bool.and_eq_true, beq_iff_eq] at c1
      exact c1.2.1.1
    obtain ⟨i, ei⟩ : ∃ i, decE (text.getD x.pc.toNat 0) = i := ⟨_, rfl⟩
    rw [ei] at h hp hregs ⊢
    rw [h8] at hregs
    refine ⟨h8, by omega, ei, hp.2.1, hp.2.2.2.1, ?_, ?_, ?_, hregs⟩
    · intro j hj
      clear hregs
      unfold stepIns at hj
      split at hj
      · unfold stepMem at hj
        split at hj
        · split at hj
          · exact absurd rfl hj
          · split at hj
            · exact set_at _ _ _ hp.2.1.1 _ hj
            · exact absurd rfl hj
        · exact absurd rfl hj
      · split at hj
        · exact absurd rfl hj
        · split at hj
          · exact absurd rfl hj
          · split at hj
            · exact absurd rfl hj
            · unfold stepCalc at hj
              split at hj
              · exact set_at _ _ _ hp.2.1.1 _ hj
              · exact absurd rfl hj
    · intro j hj
      clear hregs
      unfold stepIns at hj
      split at hj
      · unfold stepMem at hj
        split at hj
        · split at hj
          · next h3 => exact ⟨set_at _ _ _ hp.2.2.2.1 _ hj, Or.inl h3⟩
          · split at hj
            · dsimp only at hj
              split at hj
              · next h9 => exact ⟨set_at _ _ _ hp.2.2.2.1 _ hj, Or.inr h9⟩
              · exact absurd rfl hj
            · exact absurd rfl hj
        · exact absurd rfl hj
      · split at hj
        · exact absurd rfl hj
        · split at hj
          · exact absurd rfl hj
          · split at hj <;> exact absurd rfl hj
    · clear hregs
      unfold stepIns at h ⊢
      split at h
      · next h2 =>
        rw [if_pos h2]
        unfold stepMem at h ⊢
        split at h
        · next h3 =>
          rw [if_pos h3]
          split at h
          · next h4 => rw [if_pos h4]; exact Or.inl rfl
          · next h4 =>
            rw [if_neg h4]
            split at h
            · next h5 => rw [if_pos h5]; exact Or.inl rfl
            · next h5 => rcases h with h | h <;> exact absurd (show (4 : Int) = _ from h) (by decide)
        · rcases h with h | h <;> exact absurd (show (4 : Int) = _ from h) (by decide)
      · next h2 =>
        rw [if_neg h2]
        split
        · next h7 =>
          dsimp only
          split
          · exact Or.inr ⟨Or.inl h7, rfl⟩
          · exact Or.inl rfl
        · next h7 =>
          rw [if_neg h7] at h
          split
          · next h8 => exact Or.inr ⟨Or.inr h8, rfl⟩
          · next h8 =>
            rw [if_neg h8] at h
            split
            · exact Or.inl rfl
            · next h9 =>
              rw [if_neg h9] at h
              dsimp only at h
              unfold stepCalc at h ⊢
              split
              · exact Or.inl rfl
              · next h0 =>
                rw [if_neg h0] at h
                dsimp only at h
                have := calcF_small x i
                omega
  · rcases h with h | h <;> exact absurd (show (4 : Int) = _ from h) (by decide)
end Go.Proofs.Ytmchgmpdhfefjaa

namespace Go.Proofs.Ytmchgmpdhfefjaa
open Go.RowKit

def InZR (w : World) (xs : List Int) (s : Int) (n : Nat) (iv : Value) (wr : World) : Prop := ∃ i : Nat, i ≤ n ∧ iv = .int .i64 i ∧ wr = w ∧ Hid (∀ j, j < i → xs[j]? ≠ some s)

end Go.Proofs.Ytmchgmpdhfefjaa
