/-
  Walk: a new gate by the program.
-/
import Derived.Test.YtnedpcgdepiakaaRepI
import Derived.Test.YtnedpcgdepiakaaGatW
namespace Go.Proofs.Ytnedpcgdepiakaa
open Go.RowKit

theorem Box.fill3 {z : World} {g : Nat} {a b c : Value} {T : TypeId} (h : Box z g #[a, b, c] T) (x y u : Value) : Box (((z.setCell ⟨g, 0, none⟩ x).setCell ⟨g, 1, none⟩ y).setCell ⟨g, 2, none⟩ u) g #[x, y, u] T := by
  simpa using ((h.set 0 x).set 1 y).set 2 u
theorem fill3_other (z : World) (g : Nat) (x y u : Value) (k : Nat) (hk : k ≠ g) : (((z.setCell ⟨g, 0, none⟩ x).setCell ⟨g, 1, none⟩ y).setCell ⟨g, 2, none⟩ u).heap[k]? = z.heap[k]? :=
  (Below.heap_setCell _ ⟨g, 2, none⟩ _ k hk).trans ((Below.heap_setCell _ ⟨g, 1, none⟩ _ k hk).trans (Below.heap_setCell _ ⟨g, 0, none⟩ _ k hk))
theorem fill3_below {B : Nat} {w z : World} (h : Below B w z) (g : Nat) (hg : B ≤ g) (x y u : Value) : Below B w (((z.setCell ⟨g, 0, none⟩ x).setCell ⟨g, 1, none⟩ y).setCell ⟨g, 2, none⟩ u) :=
  ((h.setCell (p := ⟨g, 0, none⟩) hg x).setCell (p := ⟨g, 1, none⟩) hg y).setCell (p := ⟨g, 2, none⟩) hg u
theorem repl_len (n : Nat) (v : Value) : (List.replicate n v).length = n := List.length_replicate

set_option maxRecDepth 100000 in
set_option maxHeartbeats 2000000 in
theorem implGateNew_any (q : Int) (w : World) : Calls Try.prog 10 #[.int .i64 q] w fun e w' => ∃ r1 r2, e = .returned (.agg #[.int .i64 (gateNewE q).owner, r1, r2]) ∧ GtOwn w.heap.size w' r1 r2 (gateNewE q) ∧ Below w.heap.size w w' := by
  obtain ⟨n, en⟩ : ∃ n, min q.toNat 2 = n := ⟨_, rfl⟩
  have hn : n ≤ 2 := by omega
  have CR : ∀ (b : Nat) (z : World) (m : Int), (n : Int) = m → z.cell? ⟨b, 0, none⟩ = some (I64 (-1)) → b < z.heap.size → Hid (Calls Try.prog 26 #[.slice (some ⟨b, 0, none⟩) 1 1, .int .i64 m] z fun e w' => ∃ v', e = .returned v' ∧ w'.ownsRow z.heap.size 3 1 v' n (List.replicate n (I64 (-1))) ∧ Below z.heap.size z w') := by
    rintro b z m rfl h1 h2
    exact hide (repeat_any b n z hn h1 h2)
  have HE : Hid (gateNewE q = ⟨-1, [], List.replicate n (-1)⟩) := hide (by unfold gateNewE; rw [en])
  obtain ⟨W1, hW⟩ : ∃ W1, ((w.alloc (.cells #[.int .i64 0, .slice none 0 0, .slice none 0 0] 24)).alloc (.cells #[] 3)).alloc (.cells #[.int .i64 (-1)] 3) = W1 := ⟨_, rfl⟩
  have HW := hide hW
  have B1 : Hid (Below w.heap.size w W1) := by rw [← hW]; show Below w.heap.size w _; go_grown
  have BR : Hid (Box W1 w.heap.size #[.int .i64 0, .slice none 0 0, .slice none 0 0] 24) := by
    rw [← hW]; exact hide (((Box.made w _ _).stays ((Below.refl _ _).alloc (Nat.le_refl _) _)).stays ((Below.refl _ _).alloc (Nat.le_refl _) _))
  have BE : Hid (Box W1 (w.heap.size + 1) #[] 3) := by
    rw [← hW]; exact hide ((Box.madeAt (by simp) _ _).stays ((Below.refl _ _).alloc (Nat.le_refl _) _))
  have BN : Hid (Box W1 (w.heap.size + 1 + 1) #[.int .i64 (-1)] 3) := by
    rw [← hW]; exact hide (Box.madeAt (by simp) _ _)
  have HS : Hid (W1.heap.size = w.heap.size + 3) := by rw [← hW]; show _ = _; simp
  clear hW
  have hqs : q < 0 ∨ q > 2 ∨ (q = 0 ∨ q = 1 ∨ q = 2) := by omega
  obtain ⟨m, hm⟩ : ∃ m : Int, (n : Int) = m := ⟨_, rfl⟩
  go_enter Try.func10, Try.ntmps10
  go_wp2_with fail
  all_goals
    rw [HW.out]
    refine (unhide (CR _ _ _ (by omega) (Lib.cell_of_heap BN.out 0) BN.out.lt)).mono ?_
    rintro e w2 ⟨r2, rfl, ho, hb⟩
    obtain ⟨p2, k2, rfl⟩ := form_own ho
    have BR2 := hide (BR.out.stays hb)
    have BE2 := hide (BE.out.stays hb)
    have s0 := Lib.cell_of_heap BR2.out 0
    have s1 := Lib.cell_of_heap BR2.out 1
    have s2 := Lib.cell_of_heap BR2.out 2
    have f0 := Lib.frozen_of_heap BR2.out 0
    have f1 := Lib.frozen_of_heap BR2.out 1
    have f2 := Lib.frozen_of_heap BR2.out 2
    simp at s0 s1 s2
    have HO := hide ho
    have HB : Hid (Below w.heap.size w w2) := hide (B1.out.trans (hb.mono B1.out.size))
    have HSB := hide hb.size
    clear ho hb
    go_wp2
    refine box_ret (g := w.heap.size) (t := 24) (cs := #[.int .i64 (-1), .slice (some ⟨w.heap.size + 1, 0, none⟩) 0 0, .slice p2 n k2]) rfl rfl ?_ _ Try.underlying24 rfl (by kernel_rfl) rfl ?_
    · exact BR2.out.fill3 _ _ _
    · rw [HE.out]
      refine ⟨_, _, rfl, ⟨?_, ?_, ?_⟩, fill3_below HB.out _ (Nat.le_refl _) _ _ _⟩
      · exact ⟨rfl, .inr ⟨w.heap.size + 1, 0, #[], rfl, by omega, (fill3_other _ _ _ _ _ _ (by omega)).trans BE2.out, Nat.le_refl _, by unfold maxLen; omega, rfl, rfl⟩⟩
      · show World.ownsRow _ _ _ _ _ (List.replicate n (-1)).length ((List.replicate n (-1)).map I64)
        rw [List.length_replicate, List.map_replicate]
        exact owns_lo (owns_eq HO.out fun g hg => fill3_other _ _ _ _ _ _ (by have := (HO.out.lt g hg).1; have := HS.out; omega)) (by have := HS.out; omega)
      · intro i hi h2
        have h3 := (HO.out.lt i h2).1
        have h4 : w.heap.size + 1 = i := by injection hi
        have := HS.out
        omega
end Go.Proofs.Ytnedpcgdepiakaa
