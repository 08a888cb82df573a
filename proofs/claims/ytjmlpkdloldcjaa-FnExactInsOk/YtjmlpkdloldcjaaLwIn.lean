/-
  The laws of words, over what both sides answer.
-/
import Derived.Test.YtjmlpkdloldcjaaInsX
import Derived.Deep.Cut
namespace Go.Proofs.Ytjmlpkdloldcjaa
open Go.RowKit

abbrev insV (x : In4) : Value := .agg #[.int .i64 x.op, .int .i64 x.a, .int .i64 x.b, .int .i64 x.c]

set_option maxRecDepth 100000 in
set_option maxHeartbeats 2000000 in
theorem toIns_any (op a b c : Int) (w : World) :
    Calls Try.prog 7 #[.agg #[.int .i64 op, .int .i64 a, .int .i64 b, .int .i64 c]] w fun e w' => e = .returned (.agg #[.int .i64 op, .int .i64 a, .int .i64 b, .int .i64 c]) ∧ Below w.heap.size w w' := by
  go_enter Try.func7, Try.ntmps7
  go_wp2
  refine box_ret (g := w.heap.size + 1) (t := 25) (cs := #[.int .i64 op, .int .i64 a, .int .i64 b, .int .i64 c]) rfl rfl ?_ _ Try.underlying25 rfl (by kernel_rfl) rfl ?_
  · exact (Box.madeAt (by simp) _ _).stays ((Below.refl _ _).alloc (Nat.le_refl _) _)
  · exact ⟨rfl, by go_grown⟩

set_option maxRecDepth 100000 in
set_option maxHeartbeats 2000000 in
theorem eqIns_same (op a b c : Int) (w : World) :
    Calls Try.prog 13 #[.agg #[.int .i64 op, .int .i64 a, .int .i64 b, .int .i64 c], .agg #[.int .i64 op, .int .i64 a, .int .i64 b, .int .i64 c]] w fun e w' => e = .returned (.bool true) ∧ Below w.heap.size w w' := by
  have HB : Hid (Below w.heap.size w ((w.alloc (.cells #[.int .i64 op, .int .i64 a, .int .i64 b, .int .i64 c] 25)).alloc (.cells #[.int .i64 op, .int .i64 a, .int .i64 b, .int .i64 c] 25))) := by show Below w.heap.size w _; go_grown
  go_enter Try.func13, Try.ntmps13
  go_wp2
  go_ret
  exact ⟨rfl, HB.out⟩

set_option maxRecDepth 100000 in
set_option maxHeartbeats 2000000 in
theorem lawInsOk (op a b c : Int) (w : World)
    (IP : ∀ z, Calls Try.prog 8 #[.agg #[.int .i64 op, .int .i64 a, .int .i64 b, .int .i64 c]] z fun e w' => e = .returned (.bool (insB op a b c)) ∧ Below z.heap.size z w') :
    Calls Try.prog 3 #[.agg #[.int .i64 op, .int .i64 a, .int .i64 b, .int .i64 c]] w fun e w' => e = .returned (.bool true) ∧ Below w.heap.size w w' := by
  have CT := fun z => hide (toIns_any op a b c z)
  have CS := fun z => hide (specInsOk_any op a b c z)
  have CI := fun z => hide (IP z)
  clear IP
  have hb0 : Below w.heap.size w (w.alloc (.cells #[.int .i64 op, .int .i64 a, .int .i64 b, .int .i64 c] 23)) := (Below.refl _ _).alloc (Nat.le_refl _) _
  have BX := hide (Box.made w #[.int .i64 op, .int .i64 a, .int .i64 b, .int .i64 c] 23)
  have HB := hide hb0
  clear hb0
  obtain ⟨r, er⟩ : ∃ r, insB op a b c = r := ⟨_, rfl⟩
  simp only [er] at CS CI
  clear er
  go_enter Try.func3, Try.ntmps3
  go_wp2_with fail
  obtain ⟨W1, hW⟩ : ∃ W1, w.alloc (.cells #[.int .i64 op, .int .i64 a, .int .i64 b, .int .i64 c] 23) = W1 := ⟨_, rfl⟩
  rw [hW] at BX HB ⊢
  clear hW
  refine (unhide (CT _)).mono ?_
  rintro e z1 ⟨rfl, hb⟩
  have H1 := hide (HB.out.trans (hb.mono HB.out.size))
  have X1 := hide (BX.out.stays hb)
  clear hb HB BX
  go_wp2_with fail
  refine (unhide (CS _)).mono ?_
  rintro e z2 ⟨rfl, hz⟩
  have hb : Below z1.heap.size z1 z2 := by rw [hz]; exact (Below.refl _ _).alloc (Nat.le_refl _) _
  have H2 := hide (H1.out.trans (hb.mono H1.out.size))
  have X2 := hide (X1.out.stays hb)
  clear hb hz H1 X1
  have q0 := Lib.cell_of_heap X2.out 0
  have q1 := Lib.cell_of_heap X2.out 1
  have q2 := Lib.cell_of_heap X2.out 2
  have q3 := Lib.cell_of_heap X2.out 3
  simp at q0 q1 q2 q3
  go_wp2_with fail
  refine (unhide (CT _)).mono ?_
  rintro e z3 ⟨rfl, hb⟩
  have H3 := hide (H2.out.trans (hb.mono H2.out.size))
  clear hb H2 X2 q0 q1 q2 q3
  go_wp2_with fail
  refine (unhide (CI _)).mono ?_
  rintro e z4 ⟨rfl, hb⟩
  have H4 := hide (H3.out.trans (hb.mono H3.out.size))
  clear hb H3
  go_wp2
  go_ret
  exact ⟨rfl, H4.out⟩

set_option maxRecDepth 100000 in
set_option maxHeartbeats 2000000 in
theorem lawEncode (op a b c : Int) (w : World)
    (IP : ∀ z, Calls Try.prog 10 #[.agg #[.int .i64 op, .int .i64 a, .int .i64 b, .int .i64 c]] z fun e w' => e = .returned (.tuple #[.int .i64 (if insB op a b c = true then encI op a b c else 0), .bool (insB op a b c)]) ∧ Below z.heap.size z w') :
    Calls Try.prog 4 #[.agg #[.int .i64 op, .int .i64 a, .int .i64 b, .int .i64 c]] w fun e w' => e = .returned (.bool true) ∧ Below w.heap.size w w' := by
  have CT := fun z => hide (toIns_any op a b c z)
  have CS := fun z => hide (specEncode_any op a b c z)
  have CI := fun z => hide (IP z)
  clear IP
  have hb0 : Below w.heap.size w (w.alloc (.cells #[.int .i64 op, .int .i64 a, .int .i64 b, .int .i64 c] 23)) := (Below.refl _ _).alloc (Nat.le_refl _) _
  have BX := hide (Box.made w #[.int .i64 op, .int .i64 a, .int .i64 b, .int .i64 c] 23)
  have HB := hide hb0
  clear hb0
  obtain ⟨v, ev⟩ : ∃ v, (if insB op a b c = true then encI op a b c else 0) = v := ⟨_, rfl⟩
  simp only [ev] at CS CI
  clear ev
  obtain ⟨r, er⟩ : ∃ r, insB op a b c = r := ⟨_, rfl⟩
  simp only [er] at CS CI
  clear er
  go_enter Try.func4, Try.ntmps4
  go_wp2_with fail
  obtain ⟨W1, hW⟩ : ∃ W1, w.alloc (.cells #[.int .i64 op, .int .i64 a, .int .i64 b, .int .i64 c] 23) = W1 := ⟨_, rfl⟩
  rw [hW] at BX HB ⊢
  clear hW
  refine (unhide (CT _)).mono ?_
  rintro e z1 ⟨rfl, hb⟩
  have H1 := hide (HB.out.trans (hb.mono HB.out.size))
  have X1 := hide (BX.out.stays hb)
  clear hb HB BX
  go_wp2_with fail
  refine (unhide (CS _)).mono ?_
  rintro e z2 ⟨rfl, hb⟩
  have H2 := hide (H1.out.trans (hb.mono H1.out.size))
  have X2 := hide (X1.out.stays hb)
  clear hb H1 X1
  have q0 := Lib.cell_of_heap X2.out 0
  have q1 := Lib.cell_of_heap X2.out 1
  have q2 := Lib.cell_of_heap X2.out 2
  have q3 := Lib.cell_of_heap X2.out 3
  simp at q0 q1 q2 q3
  go_wp2_with fail
  refine (unhide (CT _)).mono ?_
  rintro e z3 ⟨rfl, hb⟩
  have H3 := hide (H2.out.trans (hb.mono H2.out.size))
  clear hb H2 X2 q0 q1 q2 q3
  go_wp2_with fail
  refine (unhide (CI _)).mono ?_
  rintro e z4 ⟨rfl, hb⟩
  have H4 := hide (H3.out.trans (hb.mono H3.out.size))
  clear hb H3
  go_wp2
  go_ret
  exact ⟨rfl, H4.out⟩

set_option maxRecDepth 100000 in
set_option maxHeartbeats 2000000 in
theorem lawDecode (n : Int) (w : World)
    (IP : ∀ z, Calls Try.prog 12 #[.int .i64 n] z fun e w' => e = .returned (.tuple #[insV (decE n), .bool (decB n)]) ∧ Below z.heap.size z w') :
    Calls Try.prog 5 #[.int .i64 n] w fun e w' => e = .returned (.bool true) ∧ Below w.heap.size w w' := by
  have CS := fun z => hide (specDecode_any n z)
  have CI := fun z => hide (IP z)
  clear IP
  obtain ⟨r, er⟩ : ∃ r, decB n = r := ⟨_, rfl⟩
  obtain ⟨⟨op, a, b, c⟩, ex⟩ : ∃ x, decE n = x := ⟨_, rfl⟩
  simp only [er, ex] at CS CI
  clear er ex
  have CE := fun z => hide (eqIns_same op a b c z)
  go_enter Try.func5, Try.ntmps5
  go_wp2_with fail
  refine (unhide (CS _)).mono ?_
  rintro e z1 ⟨rfl, hb⟩
  have ha : Below z1.heap.size z1 (z1.alloc (.cells #[.int .i64 op, .int .i64 a, .int .i64 b, .int .i64 c] 25)) := (Below.refl _ _).alloc (Nat.le_refl _) _
  have H1 := hide (hb.trans (ha.mono hb.size))
  have X1 := hide (Box.made z1 #[.int .i64 op, .int .i64 a, .int .i64 b, .int .i64 c] 25)
  clear hb ha
  go_wp2_with fail
  obtain ⟨G, eG⟩ : ∃ G, z1.heap.size = G := ⟨_, rfl⟩
  obtain ⟨W1, hW⟩ : ∃ W1, z1.alloc (.cells #[.int .i64 op, .int .i64 a, .int .i64 b, .int .i64 c] 25) = W1 := ⟨_, rfl⟩
  rw [hW] at X1 H1 ⊢
  rw [eG] at X1 ⊢
  clear hW eG
  refine (unhide (CI _)).mono ?_
  rintro e z2 ⟨rfl, hb⟩
  have ha : Below z2.heap.size z2 (z2.alloc (.cells #[.int .i64 op, .int .i64 a, .int .i64 b, .int .i64 c] 25)) := (Below.refl _ _).alloc (Nat.le_refl _) _
  have X2 := hide ((X1.out.stays hb).stays ha)
  have H2 := hide ((H1.out.trans (hb.mono H1.out.size)).trans (ha.mono (Nat.le_trans H1.out.size hb.size)))
  clear hb ha X1 H1
  have q0 := Lib.cell_of_heap X2.out 0
  have q1 := Lib.cell_of_heap X2.out 1
  have q2 := Lib.cell_of_heap X2.out 2
  have q3 := Lib.cell_of_heap X2.out 3
  simp at q0 q1 q2 q3
  go_wp2_with fail
  refine (unhide (CE _)).mono ?_
  rintro e z3 ⟨rfl, hb⟩
  have H3 := hide (H2.out.trans (hb.mono H2.out.size))
  clear hb H2 X2 q0 q1 q2 q3
  go_wp2
  go_ret
  exact ⟨rfl, H3.out⟩
end Go.Proofs.Ytjmlpkdloldcjaa
