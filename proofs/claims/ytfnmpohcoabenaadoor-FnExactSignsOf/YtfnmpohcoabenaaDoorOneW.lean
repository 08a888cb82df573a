/-
  Walks: one sign, by the specification.
-/
import Derived.Test.YtfnmpohcoabenaaDoorOneP
namespace Go.Proofs.YtfnmpohcoabenaaDoor
open Go.RowKit

theorem shape_of {w : World} {base : Nat} {e : TypeId} {size : Nat} {v : Value} {n : Nat} {xs : List Value} (h : w.ownsRow base e size v n xs) : ∃ ao cap, v = .slice ao n cap := by
  rcases h.2 with ⟨rfl, h0⟩ | ⟨g, cap, cur, rfl, _⟩
  · exact ⟨none, 0, by rw [h0]⟩
  · exact ⟨_, _, rfl⟩

set_option maxRecDepth 100000 in
set_option maxHeartbeats 4000000 in
theorem one_letter (g : Nat) (s : ByteArray) (pos : Nat) (v : Value) (acc : List Sg) (w : World) (hs : s.size ≤ 1500) (hp : pos < s.size) (C : ScAt w g s pos v) (ho : w.ownsRow (g + 1) 36 4 v acc.length (sgCells acc)) (hal : acc.length ≤ 500)
    (hl : letterQ s[pos].toNat = true) : Calls Tryd.prog 9 #[.pointer (some ⟨g, 0, none⟩)] w (OneEnd g s pos acc w) := by
  obtain ⟨hk, hn⟩ := letter_kind hp hl
  have hq : rangeQ 97 122 = letterQ := rfl
  have hgl := C.lt
  have HI := fun q => hide (OneSt.init C ho q ⟨0, ⟨#[]⟩, 0, pos⟩)
  obtain ⟨ao, cap, rfl⟩ := shape_of ho
  obtain ⟨c0, c1, c2, f1, f2⟩ := C
  clear ho
  obtain ⟨c, hc⟩ : ∃ c : Nat, c = s[pos].toNat := ⟨_, rfl⟩
  have hix : ∀ wx : World, (Instr.index 9 (.string s) (.int .i64 (pos : Int))).run Tryd.prog wx = .ok (.int .u8 (c : Int)) wx := fun wx => by
    rw [hc]; exact index_str9 Tryd.underlying9 s pos hp wx
  rw [← hc] at hl
  simp only [letterQ, decide_eq_true_eq] at hl
  obtain ⟨hl1, hl2⟩ := hl
  clear hc
  go_enter Tryd.func9, Tryd.ntmps9
  go_wp2
  go_quiet (fail)
  go_wp2_with fail
  have H1 := hide ((HI nq).out.setX 0 (.int .i64 1) ((HI nq).out.x.set0 1))
  have hrun := run_any g s pos 97 122 _ _ hs (by omega) (by omega) (by omega) H1.out.sc
  rw [hq] at hrun
  refine hrun.mono ?_
  rintro e w2 ⟨rfl, hC2, hO2⟩
  have H2 := hide (H1.out.only hO2 hC2)
  obtain ⟨n, hnn⟩ : ∃ n, n = headN letterQ (rest s pos) := ⟨_, rfl⟩
  rw [← hnn] at hn H2 ⊢
  clear hrun hC2 hO2 hnn HI c0 c1 c2 f1 f2
  have c1 : w2.cell? { block := w.heap.size, off := 1 } = some (.string ⟨#[]⟩) := H2.out.x.2.1
  have f1 : w2.frozen? { block := w.heap.size, off := 1 } = false := H2.out.fz 1
  have hpn : pos + n ≤ s.size := by
    have := sizeOfB_le (rest s pos) (by rw [rest_cons s pos hp]; simp)
    rw [rest_len, hn] at this; omega
  obtain ⟨t, ht⟩ : ∃ t, t = s.extract pos (pos + n) := ⟨_, rfl⟩
  have hts : t.size = n := by rw [ht, ByteArray.size_extract]; omega
  have H3 := hide (H2.out.setX 1 (.string t) (H2.out.x.set1 t))
  rw [← ht]
  have hd2 : w2.cell? { block := g, off := 2 } = some (.slice ao acc.length cap) := H2.out.sc.c2
  have hgx : g ≠ w.heap.size := by omega
  have hsg : (⟨1, t, 0, pos⟩ : Sg) = sgOf s pos := by rw [sgOf, hk, hn, ← ht]; rfl
  by_cases h8 : 8 < n
  · have HF : Hid (fitsQ (kindB (rest s pos)) (sizeOfB (rest s pos)) = false) := by show _ = _; rw [hk, hn, fitsQ, if_pos rfl]; simp; omega
    have h8' : (8 : Int) < (t.size : Int) := by omega
    clear ht hn hk
    go_wp2
    go_ret
    exact H3.out.stop (.inl HF.out)
  · have HF : Hid (fitsQ (kindB (rest s pos)) (sizeOfB (rest s pos)) = true) := by show _ = _; rw [hk, hn, fitsQ, if_pos rfl]; simp; omega
    have h8' : ¬ (8 : Int) < (t.size : Int) := by omega
    by_cases h500 : acc.length < 500
    · have h5' : ¬ (500 : Int) ≤ (acc.length : Int) := by omega
      clear ht hk
      go_wp2
      rw [hsg] at H3
      have hpp : pos + n = pos + sizeOfB (rest s pos) := by rw [hn]
      rw [hpp] at H3
      generalize w2.setCell ⟨w.heap.size, 1, none⟩ (.string t) = W3 at *
      clear H1 H2 c1 f1 hd2 hn hpp
      have x0 : W3.cell? { block := w.heap.size, off := 0 } = some (.int .i64 1) := by have := H3.out.x.1; rw [← hsg] at this; exact this
      have x1 : W3.cell? { block := w.heap.size, off := 1 } = some (.string t) := by have := H3.out.x.2.1; rw [← hsg] at this; exact this
      have x2 : W3.cell? { block := w.heap.size, off := 2 } = some (.int .i64 0) := by have := H3.out.x.2.2.1; rw [← hsg] at this; exact this
      have x3 : W3.cell? { block := w.heap.size, off := 3 } = some (.int .i64 pos) := by have := H3.out.x.2.2.2; rw [← hsg] at this; exact this
      have e2 : W3.cell? { block := g, off := 2 } = some (.slice ao acc.length cap) := H3.out.sc.c2
      have ef : W3.frozen? { block := g, off := 2 } = false := H3.out.sc.f2
      have hg3 : g < W3.heap.size := H3.out.sc.lt
      have hx3 : w.heap.size < W3.heap.size := H3.out.lt
      have ea : ∀ o, (W3.alloc o).cell? { block := g, off := 2 } = some (.slice ao acc.length cap) := fun o => by rw [World.cell?_alloc_lt _ _ _ hg3]; exact e2
      have fa : ∀ o, (W3.alloc o).frozen? { block := g, off := 2 } = false := fun o => by rw [World.frozen?_alloc_past _ _ _ hg3]; exact ef
      have HSG := hide hsg
      clear hsg
      have HOa : Hid (((W3.alloc (.cells #[.int .i64 1, .string t, .int .i64 0, .int .i64 pos] 36)).drew).ownsRow (g + 1) 36 4 (.slice ao acc.length cap) acc.length (sgCells acc)) := H3.out.own.alloc _
      have HNa : Hid (SgCell ((W3.alloc (.cells #[.int .i64 1, .string t, .int .i64 0, .int .i64 pos] 36)).drew) ⟨W3.heap.size, 0, none⟩ ⟨1, t, 0, pos⟩) := SgCell.new W3 ⟨1, t, 0, pos⟩ _
      go_region_law (refine step_app4 rfl (.tmp 144) (.tmp 146) 22 rfl (g + 1) 36 _ 40 Tryd.underlying22 infoSi3' rfl (.slice ao acc.length cap) acc.length (sgCells acc) rfl (unhide HOa) ⟨W3.heap.size, 0, none⟩ ⟨1, t, 0, pos⟩ rfl (unhide HNa) (by unfold maxLen; omega) (by omega) (by simp; omega) ?_; intro v' w4 hown4 hb4; have k2 := (hb4.cell (p := ⟨g, 2, none⟩) (Nat.lt_succ_self g)).trans (ea _); have k3 := (hb4.frozen (p := ⟨g, 2, none⟩) (Nat.lt_succ_self g)).trans (fa _); have ⟨ao4, cap4, hv4⟩ := shape_of hown4; subst hv4)
      all_goals
        rw [HSG.out] at hown4
        have HE := fun q => hide (H3.out.put (Below.drew ((Below.refl _ _).alloc (Nat.le_refl _) _)) HF.out h500 hown4 hb4 q)
        go_wp2
        go_ret
        exact (HE 0).out
    · have h5' : (500 : Int) ≤ (acc.length : Int) := by omega
      clear ht hn hk
      go_wp2
      go_ret
      exact H3.out.stop (.inr h500)
end Go.Proofs.YtfnmpohcoabenaaDoor
