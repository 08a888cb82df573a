/-
  The law of the text of signs, out of its pieces; a row of signs that comes in.
-/
import Derived.Test.YtfnmpohcoabenaaTxtW
import Derived.Deep.Slices
import Derived.ProofKit
import Derived.OpenShut
namespace Go.Proofs.Ytfnmpohcoabenaa
open Go.RowKit

set_option maxHeartbeats 2000000 in
theorem lawSignText (v : Value) (xs : List Sg) (w : World) (h : SgAt w v xs) (hlen : xs.length ≤ maxLen) (hx : ∀ x ∈ xs, x.text.size ≤ maxLen) :
    Calls Try.prog 5 #[v] w fun e w' => e = .returned (.bool true) ∧ Below w.heap.size w w' := by
  have HX := hide hx
  have HL := hide hlen
  have HA := hide h
  obtain ⟨ao, c, rfl, _⟩ := h
  clear hx hlen
  go_enter Try.func5, Try.ntmps5
  go_wp2_with fail
  refine (szSignS_any _ xs _ HA.out HL.out HX.out).mono ?_
  rintro e w1 ⟨r, rfl, hr, hb1⟩
  by_cases hr0 : r < 0
  · go_wp2
    go_ret
    exact ⟨rfl, hb1⟩
  · have hz : xs.length + sgSz xs ≤ 1048576 := by omega
    have hn : xs.length ≤ 1048576 := by omega
    have HA1 := hide (HA.out.stays hb1)
    have HB1 := hide hb1
    clear hb1 hr
    have s1 := HB1.out.size
    go_wp2_with fail
    refine (toSignS_any _ xs _ HA1.out hn).mono ?_
    rintro e w2 ⟨v2, rfl, hown2, hb2⟩
    have HB2 := hide hb2
    have s2 := hb2.size
    have A2 := hide (SgAt.own hown2).1
    have HA2 := hide (HA1.out.stays hb2)
    clear hown2 hb2
    go_wp2_with fail
    refine (specSignText_any _ xs _ A2.out hz).mono ?_
    rintro e w3 ⟨rfl, rfl⟩
    go_wp2_with fail
    refine (toSignS_any _ xs _ HA2.out hn).mono ?_
    rintro e w4 ⟨v4, rfl, hown4, hb4⟩
    have HB4 := hide hb4
    have s4 := hb4.size
    have A4 := hide (SgAt.own hown4).1
    have HA4 := hide (HA2.out.stays hb4)
    clear hown4 hb4
    go_wp2_with fail
    refine (implSignText_any _ xs _ A4.out hz).mono ?_
    rintro e w5 ⟨rfl, hb5⟩
    have HB5 := hide hb5
    have s5 := hb5.size
    have A5 := hide (A4.out.stays hb5)
    have HA5 := hide (HA4.out.stays hb5)
    clear hb5
    go_wp2_with fail
    refine (toSignS_any _ xs _ HA5.out hn).mono ?_
    rintro e w6 ⟨v6, rfl, hown6, hb6⟩
    have HB6 := hide hb6
    have s6 := hb6.size
    have A6 := hide (SgAt.own hown6).1
    have A56 := hide (A5.out.stays hb6)
    clear hown6 hb6
    go_wp2_with fail
    refine (eqSignS_same _ _ xs _ hn A56.out A6.out).mono ?_
    rintro e w7 ⟨rfl, hb7⟩
    have HB7 := hide hb7
    clear hb7
    go_wp2
    go_ret
    refine ⟨rfl, ?_⟩
    exact ((((HB1.out.trans (HB2.out.mono s1)).trans (HB4.out.mono (by omega))).trans (HB5.out.mono (by omega))).trans (HB6.out.mono (by omega))).trans (HB7.out.mono (by omega))

theorem cellsSg : Try.prog.cellsOf 41 = 4 := by kernel_rfl
theorem cells3 : Try.prog.cellsOf 3 = 1 := by kernel_rfl
theorem cells9 : Try.prog.cellsOf 9 = 1 := by kernel_rfl
instance : Inhabited Sg := ⟨zeroSg⟩

open Go.ChangeShapes Go.WideShapes Go.ChangeAt Go.Deep in
theorem signs_of {H : Type} {enc : TypeId × Value → H} {W : World} {v : Value} {d : DataW H} {ps : List MemPlace}
    (h : DataW.Trod enc Try.prog W 0 (fun _ => true) true 23 v d ps) (hv : ∃ a len cap, v = .slice a len cap) : ∃ xs, SgAt W v xs ∧ xs.length ≤ maxLen ∧ ∀ x ∈ xs, x.text.size ≤ maxLen := by
  obtain ⟨a, len, cap, rfl⟩ := hv
  obtain ⟨fuel, hf⟩ := h
  rcases open_slice Try.underlying23 hf with ⟨hcs, _⟩ | ⟨x, l, c, m, n, D, Pl, hcs, _, hl, hm, hmm, _, hx⟩
  · simp [Value.cells] at hcs
    obtain ⟨rfl, rfl, rfl⟩ := hcs
    exact ⟨[], ⟨none, 0, rfl, fun j hj => by simp at hj⟩, by simp, by simp⟩
  · simp [Value.cells] at hcs
    obtain ⟨rfl, rfl, rfl⟩ := hcs
    have hlm : len ≤ m := by rw [hmm]; simp; exact hl
    have hone : ∀ i, i < len → ∃ s : Sg, SgCell W (x.add (i * 4)) s ∧ s.text.size ≤ maxLen := by
      intro i hi
      obtain ⟨cs', h1, h2⟩ := hx i (by omega)
      rw [cellsSg] at h1
      obtain ⟨_, hcl, hcell⟩ := World.cells?_some h1
      obtain ⟨ys, k, _, _, _, hyl, hf⟩ := DataW.trod_struct Try.underlying41 h2
      match ys, hyl, cs', hcl with
      | [y0, y1, y2, y3], _, [v0, v1, v2, v3], _ =>
        have g0 := hf 0 _ rfl
        have g1 := hf 1 _ rfl
        have g2 := hf 2 _ rfl
        have g3 := hf 3 _ rfl
        simp [cells3, cells9] at g0 g1 g2 g3
        obtain ⟨k0, e0, _, _⟩ := DataW.trod_int Try.underlying3 g0
        obtain ⟨k1, e1, _, b1⟩ := DataW.trod_string Try.underlying9 g1
        obtain ⟨k2, e2, _, _⟩ := DataW.trod_int Try.underlying3 g2
        obtain ⟨k3, e3, _, _⟩ := DataW.trod_int Try.underlying3 g3
        simp at e0 e1 e2 e3
        subst e0 e1 e2 e3
        have c0 := hcell 0 (by omega)
        have c1 := hcell 1 (by omega)
        have c2 := hcell 2 (by omega)
        have c3 := hcell 3 (by omega)
        refine ⟨⟨k0, k1, k2, k3⟩, ⟨?_, by simpa using c1, by simpa using c2, by simpa using c3⟩, b1⟩
        have e : (x.add (i * 4)).add 0 = x.add (i * 4) := by simp [Addr.add]
        rw [e] at c0
        simpa using c0
    obtain ⟨f, hfx⟩ := choose_lt (α := Sg) hone
    refine ⟨(List.range len).map f, ⟨some x, cap, by simp, fun j hj => ⟨x, rfl, ?_, ?_⟩⟩, by simp; omega, fun y hy => ?_⟩
    · have := (hfx j (by simpa using hj)).1.1
      have h2 := World.block_lt_of_cell? _ _ this
      rwa [add_block] at h2
    · have := (hfx j (by simpa using hj)).1
      simpa using this
    · obtain ⟨j, hj, rfl⟩ := List.mem_map.1 hy
      exact (hfx j (List.mem_range.1 hj)).2
end Go.Proofs.Ytfnmpohcoabenaa
