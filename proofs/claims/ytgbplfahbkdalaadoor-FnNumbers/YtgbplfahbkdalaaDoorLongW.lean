/-
  Walks: a long text of one byte, drawn at the edges.
-/
import Derived.Test.YtgbplfahbkdalaaDoorCurT
namespace Go.Proofs.YtgbplfahbkdalaaDoor
open Go.RowKit

/-- A block of bytes. -/
structure BytesAt (w : World) (g : Nat) (bs : List UInt8) : Prop where
  cell : ∀ j (hj : j < bs.length), w.cell? ⟨g, j, none⟩ = some (.int .u8 (bs[j].toNat : Int))
  soft : ∀ j, j < bs.length → w.frozen? ⟨g, j, none⟩ = false
theorem BytesAt.set {w : World} {g : Nat} {bs : List UInt8} (h : BytesAt w g bs) (k : Nat) (hk : k < bs.length) (x : UInt8) : BytesAt (w.setCell ⟨g, k, none⟩ (.int .u8 (x.toNat : Int))) g (bs.set k x) := by
  refine ⟨fun j hj => ?_, fun j hj => ?_⟩
  · have hj' : j < bs.length := by rw [List.length_set] at hj; exact hj
    by_cases e : k = j
    · subst e
      rw [World.cell?_setCell_same _ _ _ (h.cell k hk)]
      simp
    · rw [World.cell?_setCell_other (h := ne_off e), h.cell j hj', List.getElem_set_ne e]
  · rw [World.frozen?_setCell]
    exact h.soft j (by rw [List.length_set] at hj; exact hj)
theorem BytesAt.drew {w : World} {g : Nat} {bs : List UInt8} (h : BytesAt w g bs) : BytesAt w.drew g bs := ⟨h.cell, h.soft⟩
/-- A new block of bytes is 0 all over. -/
theorem BytesAt.made (w : World) (n : Nat) : BytesAt (w.alloc (.cells (madeCells #[.int .u8 0] n) 5)) w.heap.size (List.replicate n 0) := by
  have e := heap_alloc_new w (.cells (madeCells #[Value.int .u8 0] n) 5)
  refine ⟨fun j hj => ?_, fun j hj => ?_⟩
  · unfold World.cell?
    rw [e]
    simp at hj
    simp [madeCells, hj, Nat.mod_one]
  · unfold World.frozen?
    rw [e]
    rfl
/-- What the loop over a long text keeps. -/
def LongRel (w : World) (n : Nat) (i : Value) (wr : World) : Prop :=
  ∃ (k : Nat) (bs : List UInt8), k ≤ n ∧ i = .int .i64 k ∧ bs.length = n ∧ BytesAt wr w.heap.size bs ∧ Below w.heap.size w wr

theorem makeB_run (n : Nat) (hn : n ≤ 1000000) (w : World) : (Instr.makeSlice 22 (.int .i64 (n : Int)) (.int .i64 (n : Int))).run Tryd.prog w = .ok (.slice (some ⟨w.heap.size, 0, none⟩) n n) (w.alloc (.cells (madeCells #[.int .u8 0] n) 5)) := by
  obtain ⟨i0, hi, hz0, hz1, hz2⟩ := info_parts Tryd.infoB
  have h := run_make (P := Tryd.prog) w 22 5 i0 (.int .u8 0) Tryd.underlying22 hi hz0 .i64 .i64 (n : Int) (n : Int) (by omega) (by omega) (by rw [hz2]; omega) (by omega)
  rw [hz1] at h
  simpa [Value.cells] using h

theorem long_any (w : World) (n : Nat) (x : UInt8) (hn : n ≤ 1000000) :
    Calls Tryd.prog 20 #[.int .i64 n, .int .u8 (x.toNat : Int)] w fun e w' => ∃ s : ByteArray, s.size = n ∧ e = .returned (.string s) ∧ Below w.heap.size w w' := by
  have hmk := makeB_run n hn w
  go_enter Tryd.func20, Tryd.ntmps20
  go_wp2
  go_loopw [6] (fun i wr => LongRel w n i wr) (fun i _ => n - (intOf i).toNat)
  case atStart => exact ⟨0, List.replicate n 0, Nat.zero_le _, rfl, by simp, BytesAt.made w n, (Below.refl _ _).alloc (Nat.le_refl _) _⟩
  case round =>
    obtain ⟨k, bs, hk, rfl, hl, hB, hb⟩ := hrel
    by_cases hlt : k < n
    · have hc := hB.cell k (by omega)
      have hf := hB.soft k (by omega)
      have HR : Hid (LongRel w n (.int .i64 ((k : Int) + 1)) (wr.setCell ⟨w.heap.size, k, none⟩ (.int .u8 (x.toNat : Int)))) := ⟨k + 1, bs.set k x, by omega, by go_num, by rw [List.length_set]; exact hl, hB.set k (by omega) x, Below.setCell (p := ⟨w.heap.size, k, none⟩) hb (Nat.le_refl _) _⟩
      generalize bs[k] = y at *
      clear hB hb hmk
      go_wp2
      go_roundw
      case rel => exact HR.out
      case measure => simp [intOf]; omega
    · obtain rfl : k = n := by omega
      have hcv := run_convert_bytes_back (P := Tryd.prog) wr 22 9 5 ⟨w.heap.size, 0, none⟩ k bs Tryd.underlying22 Tryd.underlying5 Tryd.underlying9 (fun j hj => by
        have ea : (⟨w.heap.size, 0, none⟩ : Addr).add j = ⟨w.heap.size, j, none⟩ := by simp only [Addr.add]; split <;> simp_all
        rw [ea]
        exact hB.cell j hj)
      have HL := hide hl
      rw [hl] at hcv
      clear hB hl hmk
      go_wp2
      go_ret
      exact ⟨⟨bs.toArray⟩, HL.out, rfl, hb⟩
end Go.Proofs.YtgbplfahbkdalaaDoor
