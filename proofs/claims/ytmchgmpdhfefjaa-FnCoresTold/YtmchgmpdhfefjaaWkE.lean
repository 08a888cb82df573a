/-
  Walks: the word at a place of a text; what a word touches; what comes next, by the program.
-/
import Derived.Test.YtmchgmpdhfefjaaWkD
import Derived.Test.YtmchgmpdhfefjaaInsJ
namespace Go.Proofs.Ytmchgmpdhfefjaa
open Go.RowKit

/-- The word at a place; whether there is one. -/
def wordI (xs : List Int) (pc : Int) : In4 := if inZ 0 ((xs.length : Int) - 1) pc = true then decE (xs.getD pc.toNat 0) else ⟨0, 0, 0, 0⟩
def wordB (xs : List Int) (pc : Int) : Bool := inZ 0 ((xs.length : Int) - 1) pc && decB (xs.getD pc.toNat 0)

set_option maxRecDepth 100000 in
set_option maxHeartbeats 2000000 in
theorem implWordAt_any (v : Value) (xs : List Int) (pc : Int) (w : World) (h : IntsAt w v xs) (_ : xs.length ≤ 1048576) :
    Calls Try.prog 26 #[v, .int .i64 pc] w fun e w' => e = .returned (.tuple #[.agg #[.int .i64 (wordI xs pc).op, .int .i64 (wordI xs pc).a, .int .i64 (wordI xs pc).b, .int .i64 (wordI xs pc).c], .bool (wordB xs pc)]) ∧ Below w.heap.size w w' := by
  have hal : Below w.heap.size w (w.alloc (.cells #[.int .i64 0, .int .i64 0, .int .i64 0, .int .i64 0] 34)) := (Below.refl _ _).alloc (Nat.le_refl _) _
  have HAL := hide (And.intro (Box.made w #[.int .i64 0, .int .i64 0, .int .i64 0, .int .i64 0] 34) hal)
  by_cases hq : inZ 0 ((xs.length : Int) - 1) pc = true
  · have hk := inZ_yes.1 hq
    obtain ⟨i, rfl⟩ : ∃ i : Nat, pc = (i : Int) := ⟨pc.toNat, by omega⟩
    have hin : i < xs.length := by omega
    have e1 : wordI xs (i : Int) = decE (xs.getD i 0) := by unfold wordI; rw [if_pos hq]; rfl
    have e2 : wordB xs (i : Int) = decB (xs.getD i 0) := by unfold wordB; rw [hq]; rfl
    rw [e1, e2]
    have HA := h.stays hal
    obtain ⟨o, c, rfl, hx⟩ := HA
    obtain ⟨a, rfl, ha, hc⟩ := hx i hin
    have eg : xs[i] = xs.getD i 0 := by rw [List.getD_eq_getElem?_getD, List.getElem?_eq_getElem hin]; rfl
    rw [eg] at hc
    obtain ⟨k, ek⟩ : ∃ k, xs.getD i 0 = k := ⟨_, rfl⟩
    rw [ek] at hc ⊢
    obtain ⟨n, en⟩ : ∃ n, xs.length = n := ⟨_, rfl⟩
    rw [en] at hin ⊢
    have CD := fun z => hide (implDecode_any k z)
    clear h hx e1 e2 eg ek hq hk en ha hal
    have h0 : ¬ ((i : Int) < 0) := by omega
    have h1 : ¬ ((n : Int) ≤ (i : Int)) := by omega
    have h2 : (i : Int) < (n : Int) := by omega
    have h3 : (0 : Int) ≤ (i : Int) := by omega
    clear hin
    generalize (decE k).op = p0 at *
    generalize (decE k).a = p1 at *
    generalize (decE k).b = p2 at *
    generalize (decE k).c = p3 at *
    go_enter Try.func26, Try.ntmps26
    go_wp2_with (first | (go_at_call 44; refine (unhide (CD _)).mono ?_; rintro e z ⟨rfl, hb⟩; have HB := hide (And.intro (HAL.out.1.stays hb) (HAL.out.2.trans (hb.mono HAL.out.2.size))); clear hb; have y0 := Lib.cell_of_heap HB.out.1 0; have y1 := Lib.cell_of_heap HB.out.1 1; have y2 := Lib.cell_of_heap HB.out.1 2; have y3 := Lib.cell_of_heap HB.out.1 3; simp at y0 y1 y2 y3; have f0 := Lib.frozen_of_heap HB.out.1 0; have f1 := Lib.frozen_of_heap HB.out.1 1; have f2 := Lib.frozen_of_heap HB.out.1 2; have f3 := Lib.frozen_of_heap HB.out.1 3) | fail)
    have S9 := hide (setBox4 w z (.int .i64 p0) (.int .i64 p1) (.int .i64 p2) (.int .i64 p3) _ _ _ _ HB.out.2 HB.out.1)
    exact box_retV (g := w.heap.size) (t := 34) (cs := #[.int .i64 p0, .int .i64 p1, .int .i64 p2, .int .i64 p3]) rfl rfl S9.out.1 _ Try.underlying34 rfl (by kernel_rfl) rfl ⟨rfl, S9.out.2⟩
  · have e1 : wordI xs pc = ⟨0, 0, 0, 0⟩ := by unfold wordI; rw [if_neg hq]
    have e2 : wordB xs pc = false := by unfold wordB; rw [Bool.not_eq_true] at hq; rw [hq]; rfl
    rw [e1, e2]
    have hq' : pc < 0 ∨ (xs.length : Int) ≤ pc := by rw [inZ_yes] at hq; omega
    obtain ⟨o, c, rfl, _⟩ := h
    obtain ⟨n, en⟩ : ∃ n, xs.length = n := ⟨_, rfl⟩
    rw [en] at hq' ⊢
    clear e1 e2 hq en hal
    rcases hq' with h0 | h0
    · go_enter Try.func26, Try.ntmps26
      go_wp2
      exact box_retV (g := w.heap.size) (t := 34) rfl rfl HAL.out.1 _ Try.underlying34 rfl (by kernel_rfl) rfl ⟨rfl, HAL.out.2⟩
    · have h1 : ¬ (pc < 0) := by omega
      go_enter Try.func26, Try.ntmps26
      go_wp2
      exact box_retV (g := w.heap.size) (t := 34) rfl rfl HAL.out.1 _ Try.underlying34 rfl (by kernel_rfl) rfl ⟨rfl, HAL.out.2⟩

/-- Whether a word touches memory. -/
def touchB (op : Int) : Bool := op == 2 || op == 3 || op == 9
set_option maxRecDepth 100000 in
set_option maxHeartbeats 2000000 in
theorem implTouches_any (op a b c : Int) (w : World) :
    Calls Try.prog 40 #[.agg #[.int .i64 op, .int .i64 a, .int .i64 b, .int .i64 c]] w fun e w' => e = .returned (.bool (touchB op)) ∧ w' = w.alloc (.cells #[.int .i64 op, .int .i64 a, .int .i64 b, .int .i64 c] 34) := by
  unfold touchB
  by_cases h2 : op = 2
  · subst h2
    go_enter Try.func40, Try.ntmps40
    go_wp2
    go_ret
    exact ⟨rfl, rfl⟩
  by_cases h3 : op = 3
  · subst h3
    go_enter Try.func40, Try.ntmps40
    go_wp2
    go_ret
    exact ⟨rfl, rfl⟩
  have e2 : (op == 2) = false := by simpa using h2
  have e3 : (op == 3) = false := by simpa using h3
  rw [e2, e3]
  go_enter Try.func40, Try.ntmps40
  go_wp2
  go_ret
  exact ⟨rfl, rfl⟩

set_option maxRecDepth 100000 in
set_option maxHeartbeats 2000000 in
theorem implTouchOf_any (v : Value) (xs : List Int) (pc : Int) (w : World) (h : IntsAt w v xs) (hl : xs.length ≤ 1048576) :
    Calls Try.prog 19 #[v, .int .i64 pc] w fun e w' => e = .returned (.int .i64 (touchE xs pc)) ∧ Below w.heap.size w w' := by
  have CW := hide (implWordAt_any v xs pc w h hl)
  have HE : touchE xs pc = if touchB (wordI xs pc).op = true then (wordI xs pc).c else -1 := by
    unfold touchE wordI touchN touchB
    by_cases hq : inZ 0 ((xs.length : Int) - 1) pc = true
    · rw [if_pos hq, if_pos hq]
      obtain ⟨k, ek⟩ : ∃ k, xs.getD pc.toNat 0 = k := ⟨_, rfl⟩
      rw [ek]
      unfold decE
      cases hb : decB k with
      | true => simp [or_assoc]
      | false => simp
    · rw [if_neg hq, if_neg hq]
      simp
  rw [HE]
  clear HE
  generalize (wordI xs pc).op = p0 at *
  generalize (wordI xs pc).a = p1 at *
  generalize (wordI xs pc).b = p2 at *
  generalize (wordI xs pc).c = p3 at *
  generalize wordB xs pc = B at *
  have CT := fun z => hide (implTouches_any p0 p1 p2 p3 z)
  obtain ⟨o, c, rfl, _⟩ := h
  cases ht : touchB p0 with
  | true =>
    simp only [ht] at CT
    clear ht
    go_enter Try.func19, Try.ntmps19
    go_wp2_with (first
      | (go_at_call 26; refine (unhide CW).mono ?_; rintro e z ⟨rfl, hb⟩; have HB := hide hb; clear hb)
      | (go_at_call 40; refine (unhide (CT _)).mono ?_; rintro e z2 ⟨rfl, hz⟩; subst hz)
      | fail)
    go_ret
    exact ⟨rfl, (HB.out.alloc HB.out.size _).alloc (by have := HB.out.size; simp; omega) _⟩
  | false =>
    simp only [ht] at CT
    clear ht
    go_enter Try.func19, Try.ntmps19
    go_wp2_with (first
      | (go_at_call 26; refine (unhide CW).mono ?_; rintro e z ⟨rfl, hb⟩; have HB := hide hb; clear hb)
      | (go_at_call 40; refine (unhide (CT _)).mono ?_; rintro e z2 ⟨rfl, hz⟩; subst hz)
      | fail)
    go_ret
    exact ⟨rfl, (HB.out.alloc HB.out.size _).alloc (by have := HB.out.size; simp; omega) _⟩
end Go.Proofs.Ytmchgmpdhfefjaa

namespace Go.Proofs.Ytmchgmpdhfefjaa
open Go.RowKit

/-- What is in register A behind the word; the fault of it. -/
def valN (x : Co) (i : In4) (mem : List Int) : Int :=
  if i.op = 1 then i.c else if i.op = 2 ∨ i.op = 9 then (if vok (mem.getD i.c.toNat 0) = true then mem.getD i.c.toNat 0 else 0) else if i.op = 4 then calcX i.c (regAt x i.a) (regAt x i.b) else if i.op = 5 then (if regAt x i.a = 0 then 1 else 0) else if i.op = 6 then negN (regAt x i.a) else regAt x i.a
def valF (x : Co) (i : In4) (mem : List Int) : Int :=
  if i.op = 1 then 0 else if i.op = 2 ∨ i.op = 9 then (if vok (mem.getD i.c.toNat 0) = true then 0 else 4) else if i.op = 4 then calcY i.c (regAt x i.a) (regAt x i.b) else if i.op = 5 then 0 else if i.op = 6 then negF (regAt x i.a) else 0
def nextE (x : Co) (i : In4) : Int := if i.op = 8 ∨ (i.op = 7 ∧ regAt x i.a = 0) then i.c else x.pc + 1
def memE (x : Co) (i : In4) (mem : List Int) : List Int := if i.op = 3 then mem.set i.c.toNat (regAt x i.a) else if i.op = 9 then mem.set i.c.toNat 1 else mem
def doE (x : Co) (i : In4) (mem : List Int) : Co × List Int × Int :=
  if touchB i.op = true ∧ (mem.length : Int) ≤ i.c then (x, mem, 4)
  else if valF x i mem ≠ 0 then (x, mem, valF x i mem)
  else if i.op = 10 then ({ x with pc := nextE x i }, memE x i mem, 10)
  else ({ x with regs := x.regs.set i.a.toNat (valN x i mem), pc := nextE x i }, memE x i mem, 0)
theorem set_same (xs : List Int) (i : Nat) : xs.set i (xs.getD i 0) = xs := by
  apply List.ext_getElem?
  intro j
  rw [List.getElem?_set]
  by_cases h : i = j
  · subst h
    by_cases hl : i < xs.length
    · rw [if_pos rfl, if_pos hl, List.getD_eq_getElem?_getD, List.getElem?_eq_getElem hl]; rfl
    · rw [if_pos rfl, if_neg hl, List.getElem?_eq_none (by omega)]
  · rw [if_neg h]
theorem set_same' (xs : List Int) (i : Nat) : xs.set i (xs[i]?.getD 0) = xs := by
  have := set_same xs i
  rwa [List.getD_eq_getElem?_getD] at this
theorem doE_eq (x : Co) (i : In4) (mem : List Int) (h1 : 1 ≤ i.op) (h10 : i.op ≤ 10) (hc : 0 ≤ i.c) : doE x i mem = stepIns x i mem := by
  obtain ⟨op, a, b, c⟩ := i
  simp only at h1 h10 hc
  have : op = 1 ∨ op = 2 ∨ op = 3 ∨ op = 4 ∨ op = 5 ∨ op = 6 ∨ op = 7 ∨ op = 8 ∨ op = 9 ∨ op = 10 := by omega
  have hin : inZ 0 ((mem.length : Int) - 1) c = decide (¬ (mem.length : Int) ≤ c) := by
    rw [Bool.eq_iff_iff, inZ_yes]
    simp
    omega
  unfold doE stepIns stepMem stepCalc calcN calcF valN valF nextE memE touchB
  rw [hin]
  clear hin
  rcases this with rfl | rfl | rfl | rfl | rfl | rfl | rfl | rfl | rfl | rfl
  · simp
  · by_cases hm : (mem.length : Int) ≤ c
    · simp [hm]
    · cases hv : vok (mem.getD c.toNat 0) <;> simp [hm]
      all_goals simp [hv]
  · by_cases hm : (mem.length : Int) ≤ c
    · simp [hm]
    · simp [hm, regAt, set_same']
  · by_cases hf : calcY c (regAt x a) (regAt x b) = 0 <;> simp [hf]
  · simp
  · by_cases hf : negF (regAt x a) = 0 <;> simp [hf]
  · simp [regAt, set_same']
  · simp [regAt, set_same']
  · by_cases hm : (mem.length : Int) ≤ c
    · simp [hm]
    · cases hv : vok (mem.getD c.toNat 0) <;> simp [hm]
      all_goals simp [hv]
  · simp
end Go.Proofs.Ytmchgmpdhfefjaa

namespace Go.Proofs.Ytmchgmpdhfefjaa
open Go.RowKit

set_option maxRecDepth 100000 in
set_option maxHeartbeats 1000000 in
theorem implLoaded_any (n : Int) (w : World) : Calls Try.prog 53 #[.int .i64 n] w fun e w' => e = .returned (two (if vok n = true then n else 0) (if vok n = true then 0 else 4)) ∧ w = w' := by
  have CV := fun z => hide (implValOk n z)
  cases hv : vok n with
  | true =>
    have CV2 := fun z => hide (CV z).out
    simp only [hv] at CV2
    clear CV hv
    go_enter Try.func53, Try.ntmps53
    go_wp2_with (go_at_call 66; refine (unhide (CV2 _)).mono ?_; rintro e z ⟨rfl, rfl⟩)
    go_ret2
    exact ⟨rfl, rfl⟩
  | false =>
    have CV2 := fun z => hide (CV z).out
    simp only [hv] at CV2
    clear CV hv
    go_enter Try.func53, Try.ntmps53
    go_wp2_with (go_at_call 66; refine (unhide (CV2 _)).mono ?_; rintro e z ⟨rfl, rfl⟩)
    go_ret2
    exact ⟨rfl, rfl⟩

/-- A worker in its box: its registers, place and process, and its memory. -/
def wkC (xs : List Int) (p q : Int) (mv : Value) : Array Value := (xs.map I64 ++ [I64 p, I64 q, mv]).toArray
structure WkZ (B G : Nat) (mv : Value) (xs : List Int) (p q : Int) (mem : List Int) (z : World) : Prop where
  bO : Box z G (wkC xs p q mv) 61
  mo : z.ownsRow B 3 1 mv mem.length (mem.map I64)
  hB : B ≤ G
theorem WkZ.stays {B G : Nat} {mv : Value} {xs : List Int} {p q : Int} {mem : List Int} {z z' : World} (h : WkZ B G mv xs p q mem z) (hb : Below z.heap.size z z') : WkZ B G mv xs p q mem z' :=
  ⟨h.bO.stays hb, owns_eq h.mo fun k hk => hb.block k (h.mo.lt k hk).2, h.hB⟩
theorem WkZ.reg {B G : Nat} {mv : Value} {xs : List Int} {p q : Int} {mem : List Int} {z : World} (h : WkZ B G mv xs p q mem z) {a : Nat} (ha : a < xs.length) : z.cell? ⟨G, a, none⟩ = some (.int .i64 (xs.getD a 0)) := by
  rw [Lib.cell_of_heap h.bO a, wkC, List.getElem?_toArray, List.getElem?_append_left (by rw [List.length_map]; exact ha), List.getElem?_map, List.getElem?_eq_getElem ha, List.getD_eq_getElem?_getD, List.getElem?_eq_getElem ha]
  rfl
theorem WkZ.setReg {B G : Nat} {mv : Value} {xs : List Int} {p q : Int} {mem : List Int} {z : World} (h : WkZ B G mv xs p q mem z) {a : Nat} (ha : a < xs.length) (n : Int) : WkZ B G mv (xs.set a n) p q mem (z.setCell ⟨G, a, none⟩ (.int .i64 n)) := by
  refine ⟨?_, owns_eq h.mo fun k hk => Below.heap_setCell _ ⟨G, a, none⟩ _ k (fun e => Lib.ownBlock_ne h.mo h.bO (by decide) (by rw [hk, show k = G from e])), h.hB⟩
  have := h.bO.set a (.int .i64 n)
  rw [wkC, List.setIfInBounds_toArray, List.set_append_left _ _ (by rw [List.length_map]; exact ha), ← List.map_set] at this
  exact this
theorem WkZ.setPc {B G : Nat} {mv : Value} {xs : List Int} {p q : Int} {mem : List Int} {z : World} (h : WkZ B G mv xs p q mem z) (h8 : xs.length = 8) (n : Int) : WkZ B G mv xs n q mem (z.setCell ⟨G, 8, none⟩ (.int .i64 n)) := by
  refine ⟨?_, owns_eq h.mo fun k hk => Below.heap_setCell _ ⟨G, 8, none⟩ _ k (fun e => Lib.ownBlock_ne h.mo h.bO (by decide) (by rw [hk, show k = G from e])), h.hB⟩
  have := h.bO.set 8 (.int .i64 n)
  rw [wkC, List.setIfInBounds_toArray, List.set_append_right _ _ (by simp [h8])] at this
  have e : 8 - (xs.map I64).length = 0 := by simp [h8]
  rw [e] at this
  exact this
theorem WkZ.setMem {B G mq c i : Nat} {xs : List Int} {p q : Int} {mem : List Int} {z : World} (h : WkZ B G (.slice (some ⟨mq, 0, none⟩) mem.length c) xs p q mem z) (n : Int) : WkZ B G (.slice (some ⟨mq, 0, none⟩) mem.length c) xs p q (mem.set i n) (z.setCell ⟨mq, i, none⟩ (.int .i64 n)) := by
  have hGq : G ≠ mq := fun e => Lib.ownBlock_ne h.mo h.bO (by decide) (by rw [e]; rfl)
  refine ⟨h.bO.other _ _ (by show G ≠ mq; exact hGq), ?_, h.hB⟩
  have h9 := (h.mo.stored i (.int .i64 n)).1
  rw [List.length_set, List.map_set]
  exact h9

set_option maxRecDepth 100000 in
set_option maxHeartbeats 4000000 in
theorem implNext_any (r0 r1 r2 r3 r4 r5 r6 r7 p q : Int) (op a b c : Int) (w : World) (ha : 0 ≤ a ∧ a ≤ 7) (hp : 0 ≤ p ∧ p ≤ 1048576) :
    Calls Try.prog 47 #[.agg #[.int .i64 r0, .int .i64 r1, .int .i64 r2, .int .i64 r3, .int .i64 r4, .int .i64 r5, .int .i64 r6, .int .i64 r7, .int .i64 p, .int .i64 q], .agg #[.int .i64 op, .int .i64 a, .int .i64 b, .int .i64 c]] w fun e w' => e = .returned (.int .i64 (nextE ⟨[r0, r1, r2, r3, r4, r5, r6, r7], p, q⟩ ⟨op, a, b, c⟩)) ∧ Below w.heap.size w w' := by
  obtain ⟨k, rfl⟩ : ∃ k : Nat, a = (k : Int) := ⟨a.toNat, by omega⟩
  have hk : k < 8 := by omega
  have hal : Below w.heap.size w ((w.alloc (.cells #[.int .i64 r0, .int .i64 r1, .int .i64 r2, .int .i64 r3, .int .i64 r4, .int .i64 r5, .int .i64 r6, .int .i64 r7, .int .i64 p, .int .i64 q] 57)).alloc (.cells #[.int .i64 op, .int .i64 (k : Int), .int .i64 b, .int .i64 c] 34)) := by go_grown
  have bS : Box ((w.alloc (.cells #[.int .i64 r0, .int .i64 r1, .int .i64 r2, .int .i64 r3, .int .i64 r4, .int .i64 r5, .int .i64 r6, .int .i64 r7, .int .i64 p, .int .i64 q] 57)).alloc (.cells #[.int .i64 op, .int .i64 (k : Int), .int .i64 b, .int .i64 c] 34)) w.heap.size #[.int .i64 r0, .int .i64 r1, .int .i64 r2, .int .i64 r3, .int .i64 r4, .int .i64 r5, .int .i64 r6, .int .i64 r7, .int .i64 p, .int .i64 q] 57 := (Box.made _ _ _).stays ((Below.refl _ _).alloc (Nat.le_refl _) _)
  have hc : ((w.alloc (.cells #[.int .i64 r0, .int .i64 r1, .int .i64 r2, .int .i64 r3, .int .i64 r4, .int .i64 r5, .int .i64 r6, .int .i64 r7, .int .i64 p, .int .i64 q] 57)).alloc (.cells #[.int .i64 op, .int .i64 (k : Int), .int .i64 b, .int .i64 c] 34)).cell? ⟨w.heap.size, k, none⟩ = some (.int .i64 ([r0, r1, r2, r3, r4, r5, r6, r7].getD k 0)) := by
    rw [Lib.cell_of_heap bS k]
    match k, hk with
    | 0, _ | 1, _ | 2, _ | 3, _ | 4, _ | 5, _ | 6, _ | 7, _ => rfl
  have hw : wrap64 (p + 1) = p + 1 := by unfold wrap64; omega
  have HE : nextE ⟨[r0, r1, r2, r3, r4, r5, r6, r7], p, q⟩ ⟨op, k, b, c⟩ = if op = 8 ∨ (op = 7 ∧ ([r0, r1, r2, r3, r4, r5, r6, r7].getD k 0) = 0) then c else p + 1 := rfl
  rw [HE]
  clear HE bS
  have HAL := hide hal
  have h0 : (0 : Int) ≤ (k : Int) := by omega
  have h1 : (k : Int) < 8 := by omega
  clear hal hp ha hk
  obtain ⟨n, en⟩ : ∃ n, [r0, r1, r2, r3, r4, r5, r6, r7].getD k 0 = n := ⟨_, rfl⟩
  rw [en] at hc ⊢
  clear en
  by_cases h8 : op = 8
  · subst h8
    go_enter Try.func47, Try.ntmps47
    go_wp2
    all_goals
      go_ret
      exact ⟨rfl, HAL.out⟩
  have e8 : (op == 8) = false := by simpa using h8
  by_cases h7 : op = 7
  · subst h7
    by_cases hn : n = 0
    · subst hn
      go_enter Try.func47, Try.ntmps47
      go_wp2
      go_ret
      exact ⟨rfl, HAL.out⟩
    · have en : (n == 0) = false := by simpa using hn
      go_enter Try.func47, Try.ntmps47
      go_wp2
      go_ret
      exact ⟨rfl, HAL.out⟩
  · have e7 : (op == 7) = false := by simpa using h7
    go_enter Try.func47, Try.ntmps47
    go_wp2
    go_ret
    exact ⟨rfl, HAL.out⟩
end Go.Proofs.Ytmchgmpdhfefjaa
