/-
  Walk: where a name is, by the specification.
-/
import Derived.Test.YtgeomgghecmkbaaMatP
import Derived.Test.YtgeomgghecmkbaaCopE
namespace Go.Proofs.Ytgeomgghecmkbaa
open Go.RowKit

def PeR (W : World) (x : Plc) (s : ByteArray) (iv : Value) (wr : World) : Prop := ∃ i : Nat, i ≤ (x.names.take x.ats.length).length ∧ iv = .int .i64 i ∧ wr = W ∧ Hid (NoneTo (eqS s) (x.names.take x.ats.length) i)
set_option maxRecDepth 100000 in
set_option maxHeartbeats 4000000 in
theorem specPlaceIn_any (v0 v1 : Value) (x : Plc) (s : ByteArray) (w : World) (h : PlcAt w v0 v1 x) (hl : PlcLen x) :
    Calls Try.prog 5 #[.agg #[v0, v1], .string s] w fun e w' => e = .returned (.int .i64 (placeE x s)) ∧ Below w.heap.size w w' := by
  have hb1 : Below w.heap.size w (w.alloc (.cells #[v0, v1] 28)) := (Below.refl _ _).alloc (Nat.le_refl _) _
  have HA := hide (h.stays hb1)
  have BX := hide (Box.made w #[v0, v1] 28)
  have HB := hide hb1
  have L0 := hl.l0
  have L1 := hl.l1
  obtain ⟨o0, c0, rfl, _⟩ := h.a0
  obtain ⟨o1, c1, rfl, _⟩ := h.a1
  clear h hl hb1
  obtain ⟨W, hW⟩ : ∃ W, w.alloc (.cells #[.slice o0 x.names.length c0, .slice o1 x.ats.length c1] 28) = W := ⟨_, rfl⟩
  have HW := hide hW
  rw [hW] at HA BX HB
  clear hW
  have q0 := Lib.cell_of_heap BX.out 0
  have q1 := Lib.cell_of_heap BX.out 1
  simp at q0 q1
  have HML : Hid ((x.names.take x.ats.length).length = min x.ats.length x.names.length) := List.length_take
  obtain ⟨n, en⟩ : ∃ n, x.names.length = n := ⟨_, rfl⟩
  obtain ⟨m, em⟩ : ∃ m, x.ats.length = m := ⟨_, rfl⟩
  have EN := hide en
  have EM := hide em
  rw [en, em] at HML
  rw [en] at HA HW L0 q0 ⊢
  rw [em] at HA HW L1 q1 ⊢
  clear en em
  go_enter Try.func5, Try.ntmps5
  go_wp2
  rw [HW.out]
  go_loopw [5] (fun iv wr => PeR W x s iv wr) (fun iv _ => n - (intOf iv).toNat)
  case atStart => exact ⟨0, by omega, rfl, rfl, NoneTo.zero _ _⟩
  case round =>
    obtain ⟨i, hi, rfl, rfl, HN⟩ := hrel
    rw [EM.out, HML.out] at hi
    by_cases hlt : i < n
    · by_cases hlm : i < m
      · have hlt' : (i : Int) < (n : Int) := by omega
        have hlm' : (i : Int) < (m : Int) := by omega
        have hi0 : (0 : Int) ≤ (i : Int) := by omega
        have hin : i < x.names.length := by rw [EN.out]; exact hlt
        have him : i < x.ats.length := by rw [EM.out]; exact hlm
        have hit : i < (x.names.take x.ats.length).length := by rw [EM.out, HML.out]; omega
        have HTK : Hid ((x.names.take x.ats.length)[i] = x.names[i]) := List.getElem_take
        obtain ⟨ao', c', e1, hc1⟩ := HA.out.a0
        injection e1 with e2 e3 e4
        subst e2
        obtain ⟨a, rfl, _, hx⟩ := hc1 i hin
        obtain ⟨bo', d', e1, hc2⟩ := HA.out.a1
        injection e1 with e2 e5 e6
        subst e2
        obtain ⟨b, rfl, _, hy⟩ := hc2 i him
        have HH := hide (HN.out.hit hit)
        have HST := hide (HN.out.step (i := i))
        have HGV : Hid (firstAt (eqS s) (x.names.take x.ats.length) = (i : Int) → placeE x s = x.ats[i]) := fun h => by
          have h' : atPl x s = (i : Int) := h
          rw [placeE, h', if_pos hi0, Int.toNat_natCast, List.getD_eq_getElem?_getD, List.getElem?_eq_getElem him]
          rfl
        have hcmp := str_cmp x.names[i] s
        obtain ⟨y, ey⟩ : ∃ y, x.names[i] = y := ⟨_, rfl⟩
        obtain ⟨u, eu⟩ : ∃ u, x.ats[i] = u := ⟨_, rfl⟩
        rw [ey] at hx HTK hcmp
        rw [eu] at hy HGV
        clear hc1 hc2 e3 e4 e5 e6 ey eu
        obtain ⟨q, eq⟩ : ∃ q, eqS s y = q := ⟨_, rfl⟩
        rw [eq] at hcmp
        cases q with
        | true =>
          have HF := hide (HGV.out (HH.out (by rw [HTK.out]; exact eq)))
          clear eq HH HST HGV
          go_wp2
          go_ret
          exact ⟨by rw [HF.out]; rfl, HB.out⟩
        | false =>
          have HS2 := hide (HST.out (fun _ => by rw [HTK.out]; exact eq))
          clear eq HH HST HGV
          go_wp2
          go_roundw
          case rel => exact ⟨i + 1, by rw [EM.out, HML.out]; omega, by go_num, rfl, HS2.out⟩
          case measure => simp [intOf]; omega
      · have hlt' : (i : Int) < (n : Int) := by omega
        have hlm' : ¬ (i : Int) < (m : Int) := by omega
        have HF : Hid (placeE x s = -1) := by
          have h := HN.out.none (by rw [EM.out, HML.out]; omega)
          have h' : atPl x s = -1 := h
          show _ = _
          rw [placeE, h', if_neg (by omega)]
        go_wp2
        go_ret
        exact ⟨by rw [HF.out]; rfl, HB.out⟩
    · have hlt' : ¬ (i : Int) < (n : Int) := by omega
      have HF : Hid (placeE x s = -1) := by
        have h := HN.out.none (by rw [EM.out, HML.out]; omega)
        have h' : atPl x s = -1 := h
        show _ = _
        rw [placeE, h', if_neg (by omega)]
      go_wp2
      go_ret
      exact ⟨by rw [HF.out]; rfl, HB.out⟩
end Go.Proofs.Ytgeomgghecmkbaa
