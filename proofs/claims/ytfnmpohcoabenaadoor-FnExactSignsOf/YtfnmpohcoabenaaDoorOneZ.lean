/-
  Walks: one sign, by the specification: a mark of one byte, and what may not stand.
-/
import Derived.Test.YtfnmpohcoabenaaDoorOneY
namespace Go.Proofs.YtfnmpohcoabenaaDoor
open Go.RowKit

set_option maxRecDepth 100000 in
set_option maxHeartbeats 4000000 in
theorem one_mark (g : Nat) (s : ByteArray) (pos : Nat) (v : Value) (acc : List Sg) (w : World) (hs : s.size ≤ 1500) (hp : pos < s.size) (C : ScAt w g s pos v) (ho : w.ownsRow (g + 1) 36 4 v acc.length (sgCells acc)) (hal : acc.length ≤ 500)
    (hm : markQ s[pos].toNat = true) : Calls Tryd.prog 9 #[.pointer (some ⟨g, 0, none⟩)] w (OneEnd g s pos acc w) := by
  obtain ⟨hk, hn, h97, h48, h58⟩ := mark_kind hp hm
  have hgl := C.lt
  have HI := fun q => hide (OneSt.init C ho q ⟨0, ⟨#[]⟩, 0, pos⟩)
  obtain ⟨ao, cap, rfl⟩ := shape_of ho
  obtain ⟨c0, c1, c2, f1, f2⟩ := C
  clear ho
  obtain ⟨t, ht⟩ : ∃ t, t = s.extract pos (pos + 1) := ⟨_, rfl⟩
  obtain ⟨c, hc⟩ : ∃ c : Nat, c = s[pos].toNat := ⟨_, rfl⟩
  have hb8 : c < 256 := by rw [hc]; exact s[pos].toNat_lt
  have hix : ∀ wx : World, (Instr.index 9 (.string s) (.int .i64 (pos : Int))).run Tryd.prog wx = .ok (.int .u8 (c : Int)) wx := fun wx => by
    rw [hc]; exact index_str9 Tryd.underlying9 s pos hp wx
  have hsl : ∀ wx : World, (Instr.slice 9 (.string s) (some (.int .i64 (pos : Int))) (some (.int .i64 ((pos : Int) + 1))) none).run Tryd.prog wx = .ok (.string t) wx := fun wx => by
    rw [run_slice_string (P := Tryd.prog) (w := wx) 9 s .i64 .i64 pos ((pos : Int) + 1) Tryd.underlying9 (by omega) (by omega) (by omega), ht]
    congr 3
  rw [← hc] at hm h97 h48 h58
  have CM := fun w => hide (l04Mark_any c w hb8)
  rw [hm] at CM
  have hwr : IntKind.i64.wrap ((pos : Int) + 1) = (pos : Int) + 1 := IntWalk.i64_in _ (by omega)
  have h97' : ¬ (97 : Int) ≤ (c : Int) := by omega
  have h58' : ((c : Int) == 58) = false := by simp; omega
  have h58d : decide (c = 58) = false := by simp; omega
  have HSG : Hid ((⟨3, t, 0, pos⟩ : Sg) = sgOf s pos) := by show _ = _; rw [sgOf, hk, hn, ← ht]; rfl
  have HF : Hid (fitsQ (kindB (rest s pos)) (sizeOfB (rest s pos)) = true) := by show _ = _; rw [hk]; rfl
  have HNN := hide hn
  have HX : ∀ q, Hid (OneSt g w.heap.size s (pos + 1) (.slice ao acc.length cap) acc ⟨3, t, 0, pos⟩ w (((((w.alloc (.cells #[.int .i64 0, .string ⟨#[]⟩, .int .i64 0, .int .i64 pos] 36)).drewN q).setCell ⟨w.heap.size, 0, none⟩ (.int .i64 3)).setCell ⟨w.heap.size, 1, none⟩ (.string t)).drew.setCell ⟨g, 1, none⟩ (.int .i64 ((pos : Int) + 1)))) := fun q =>
    ((((HI q).out.setX 0 (.int .i64 3) ((HI q).out.x.set0 3)).setX 1 (.string t) (((HI q).out.setX 0 (.int .i64 3) ((HI q).out.x.set0 3)).x.set1 t)).drew1).setPos (pos + 1)
  clear hk hn ht hc hm
  have main : (c < 48 ∨ 57 < c) := by omega
  clear h48 h97 h58 hb8
  rcases main with h48 | h57
  · have h48' : ¬ (48 : Int) ≤ (c : Int) := by omega
    by_cases h500 : acc.length < 500
    · have h5' : ¬ (500 : Int) ≤ (acc.length : Int) := by omega
      go_enter Tryd.func9, Tryd.ntmps9
      go_wp2
      go_quiet (fail)
      go_wp2
      go_quiet (fail)
      go_wp2_with (go_at_call 17; refine (unhide (CM _)).mono ?_; rintro e w1 ⟨rfl, rfl⟩)
      go_region
      go_wp2
      refine with_world (S := fun W3 => OneSt g w.heap.size s (pos + sizeOfB (rest s pos)) (.slice ao acc.length cap) acc (sgOf s pos) w W3) ?_ ?_
      · rw [← HSG.out, HNN.out]; exact (HX _).out
      intro W3 h3
      have H3 := hide h3
      clear h3 HX HI c0 c1 c2 f1 f2 hix hsl CM hwr
      have x0 : W3.cell? { block := w.heap.size, off := 0 } = some (.int .i64 3) := by have := H3.out.x.1; rw [← HSG.out] at this; exact this
      have x1 : W3.cell? { block := w.heap.size, off := 1 } = some (.string t) := by have := H3.out.x.2.1; rw [← HSG.out] at this; exact this
      have x2 : W3.cell? { block := w.heap.size, off := 2 } = some (.int .i64 0) := by have := H3.out.x.2.2.1; rw [← HSG.out] at this; exact this
      have x3 : W3.cell? { block := w.heap.size, off := 3 } = some (.int .i64 pos) := by have := H3.out.x.2.2.2; rw [← HSG.out] at this; exact this
      have e2 : W3.cell? { block := g, off := 2 } = some (.slice ao acc.length cap) := H3.out.sc.c2
      have ef : W3.frozen? { block := g, off := 2 } = false := H3.out.sc.f2
      have hg3 : g < W3.heap.size := H3.out.sc.lt
      have hx3 : w.heap.size < W3.heap.size := H3.out.lt
      have ea : ∀ o, (W3.alloc o).cell? { block := g, off := 2 } = some (.slice ao acc.length cap) := fun o => by rw [World.cell?_alloc_lt _ _ _ hg3]; exact e2
      have fa : ∀ o, (W3.alloc o).frozen? { block := g, off := 2 } = false := fun o => by rw [World.frozen?_alloc_past _ _ _ hg3]; exact ef
      have HOa : Hid (((W3.alloc (.cells #[.int .i64 3, .string t, .int .i64 0, .int .i64 pos] 36)).drew).ownsRow (g + 1) 36 4 (.slice ao acc.length cap) acc.length (sgCells acc)) := H3.out.own.alloc _
      have HNa : Hid (SgCell ((W3.alloc (.cells #[.int .i64 3, .string t, .int .i64 0, .int .i64 pos] 36)).drew) ⟨W3.heap.size, 0, none⟩ ⟨3, t, 0, pos⟩) := SgCell.new W3 ⟨3, t, 0, pos⟩ _
      go_region_law (refine step_app4 rfl (.tmp 144) (.tmp 146) 22 rfl (g + 1) 36 _ 40 Tryd.underlying22 infoSi3' rfl (.slice ao acc.length cap) acc.length (sgCells acc) rfl (unhide HOa) ⟨W3.heap.size, 0, none⟩ ⟨3, t, 0, pos⟩ rfl (unhide HNa) (by unfold maxLen; omega) (by omega) (by simp; omega) ?_; intro v' w4 hown4 hb4; have k2 := (hb4.cell (p := ⟨g, 2, none⟩) (Nat.lt_succ_self g)).trans (ea _); have k3 := (hb4.frozen (p := ⟨g, 2, none⟩) (Nat.lt_succ_self g)).trans (fa _); have ⟨ao4, cap4, hv4⟩ := shape_of hown4; subst hv4)
      all_goals
        rw [HSG.out] at hown4
        have HE := fun q => hide (H3.out.put (Below.drew ((Below.refl _ _).alloc (Nat.le_refl _) _)) HF.out h500 hown4 hb4 q)
        go_wp2
        go_ret
        exact (HE 0).out
    · have h5' : (500 : Int) ≤ (acc.length : Int) := by omega
      go_enter Tryd.func9, Tryd.ntmps9
      go_wp2
      go_quiet (fail)
      go_wp2
      go_quiet (fail)
      go_wp2_with (go_at_call 17; refine (unhide (CM _)).mono ?_; rintro e w1 ⟨rfl, rfl⟩)
      go_region
      go_wp2
      go_ret
      exact (HX _).out.stop (.inr h500)
  · have h57' : ¬ (c : Int) ≤ 57 := by omega
    have h48' : (48 : Int) ≤ (c : Int) := by omega
    by_cases h500 : acc.length < 500
    · have h5' : ¬ (500 : Int) ≤ (acc.length : Int) := by omega
      go_enter Tryd.func9, Tryd.ntmps9
      go_wp2
      go_quiet (fail)
      go_wp2
      go_quiet (fail)
      go_wp2_with (go_at_call 17; refine (unhide (CM _)).mono ?_; rintro e w1 ⟨rfl, rfl⟩)
      go_region
      go_wp2
      refine with_world (S := fun W3 => OneSt g w.heap.size s (pos + sizeOfB (rest s pos)) (.slice ao acc.length cap) acc (sgOf s pos) w W3) ?_ ?_
      · rw [← HSG.out, HNN.out]; exact (HX _).out
      intro W3 h3
      have H3 := hide h3
      clear h3 HX HI c0 c1 c2 f1 f2 hix hsl CM hwr
      have x0 : W3.cell? { block := w.heap.size, off := 0 } = some (.int .i64 3) := by have := H3.out.x.1; rw [← HSG.out] at this; exact this
      have x1 : W3.cell? { block := w.heap.size, off := 1 } = some (.string t) := by have := H3.out.x.2.1; rw [← HSG.out] at this; exact this
      have x2 : W3.cell? { block := w.heap.size, off := 2 } = some (.int .i64 0) := by have := H3.out.x.2.2.1; rw [← HSG.out] at this; exact this
      have x3 : W3.cell? { block := w.heap.size, off := 3 } = some (.int .i64 pos) := by have := H3.out.x.2.2.2; rw [← HSG.out] at this; exact this
      have e2 : W3.cell? { block := g, off := 2 } = some (.slice ao acc.length cap) := H3.out.sc.c2
      have ef : W3.frozen? { block := g, off := 2 } = false := H3.out.sc.f2
      have hg3 : g < W3.heap.size := H3.out.sc.lt
      have hx3 : w.heap.size < W3.heap.size := H3.out.lt
      have ea : ∀ o, (W3.alloc o).cell? { block := g, off := 2 } = some (.slice ao acc.length cap) := fun o => by rw [World.cell?_alloc_lt _ _ _ hg3]; exact e2
      have fa : ∀ o, (W3.alloc o).frozen? { block := g, off := 2 } = false := fun o => by rw [World.frozen?_alloc_past _ _ _ hg3]; exact ef
      have HOa : Hid (((W3.alloc (.cells #[.int .i64 3, .string t, .int .i64 0, .int .i64 pos] 36)).drew).ownsRow (g + 1) 36 4 (.slice ao acc.length cap) acc.length (sgCells acc)) := H3.out.own.alloc _
      have HNa : Hid (SgCell ((W3.alloc (.cells #[.int .i64 3, .string t, .int .i64 0, .int .i64 pos] 36)).drew) ⟨W3.heap.size, 0, none⟩ ⟨3, t, 0, pos⟩) := SgCell.new W3 ⟨3, t, 0, pos⟩ _
      go_region_law (refine step_app4 rfl (.tmp 144) (.tmp 146) 22 rfl (g + 1) 36 _ 40 Tryd.underlying22 infoSi3' rfl (.slice ao acc.length cap) acc.length (sgCells acc) rfl (unhide HOa) ⟨W3.heap.size, 0, none⟩ ⟨3, t, 0, pos⟩ rfl (unhide HNa) (by unfold maxLen; omega) (by omega) (by simp; omega) ?_; intro v' w4 hown4 hb4; have k2 := (hb4.cell (p := ⟨g, 2, none⟩) (Nat.lt_succ_self g)).trans (ea _); have k3 := (hb4.frozen (p := ⟨g, 2, none⟩) (Nat.lt_succ_self g)).trans (fa _); have ⟨ao4, cap4, hv4⟩ := shape_of hown4; subst hv4)
      all_goals
        rw [HSG.out] at hown4
        have HE := fun q => hide (H3.out.put (Below.drew ((Below.refl _ _).alloc (Nat.le_refl _) _)) HF.out h500 hown4 hb4 q)
        go_wp2
        go_ret
        exact (HE 0).out
    · have h5' : (500 : Int) ≤ (acc.length : Int) := by omega
      go_enter Tryd.func9, Tryd.ntmps9
      go_wp2
      go_quiet (fail)
      go_wp2
      go_quiet (fail)
      go_wp2_with (go_at_call 17; refine (unhide (CM _)).mono ?_; rintro e w1 ⟨rfl, rfl⟩)
      go_region
      go_wp2
      go_ret
      exact (HX _).out.stop (.inr h500)

set_option maxRecDepth 100000 in
set_option maxHeartbeats 4000000 in
theorem one_none (g : Nat) (s : ByteArray) (pos : Nat) (v : Value) (acc : List Sg) (w : World) (hs : s.size ≤ 1500) (hp : pos < s.size) (C : ScAt w g s pos v) (ho : w.ownsRow (g + 1) 36 4 v acc.length (sgCells acc))
    (h1 : blankQ s[pos].toNat = false) (h2 : s[pos].toNat ≠ 35) (h3 : letterQ s[pos].toNat = false) (h4 : figureQ s[pos].toNat = false) (h5 : ¬ (s[pos].toNat = 58 ∧ (rest s (pos + 1)).head?.map UInt8.toNat = some 61)) (h6 : markQ s[pos].toNat = false) : Calls Tryd.prog 9 #[.pointer (some ⟨g, 0, none⟩)] w (OneEnd g s pos acc w) := by
  have HF := hide (none_kind hp h1 h2 h3 h4 h5 h6)
  have hgl := C.lt
  have HI := fun q => hide (OneSt.init C ho q ⟨0, ⟨#[]⟩, 0, pos⟩)
  obtain ⟨c0, c1, c2, f1, f2⟩ := C
  clear ho h1 h2
  obtain ⟨c, hc⟩ : ∃ c : Nat, c = s[pos].toNat := ⟨_, rfl⟩
  have hb8 : c < 256 := by rw [hc]; exact s[pos].toNat_lt
  have hix : ∀ wx : World, (Instr.index 9 (.string s) (.int .i64 (pos : Int))).run Tryd.prog wx = .ok (.int .u8 (c : Int)) wx := fun wx => by
    rw [hc]; exact index_str9 Tryd.underlying9 s pos hp wx
  rw [← hc] at h3 h4 h5 h6
  have CM := fun w => hide (l04Mark_any c w hb8)
  rw [h6] at CM
  have hwr : IntKind.i64.wrap ((pos : Int) + 1) = (pos : Int) + 1 := IntWalk.i64_in _ (by omega)
  clear hc h6
  by_cases h58 : c = 58
  · subst h58
    clear h3 h4 hb8
    by_cases hp1 : pos + 1 < s.size
    · obtain ⟨c', hc'⟩ : ∃ c' : Nat, c' = s[pos + 1].toNat := ⟨_, rfl⟩
      have h61 : c' ≠ 61 := fun e => h5 ⟨rfl, by rw [rest_cons s _ hp1]; simp [← hc', e]⟩
      have hix1 : ∀ wx : World, (Instr.index 9 (.string s) (.int .i64 ((pos : Int) + 1))).run Tryd.prog wx = .ok (.int .u8 (c' : Int)) wx := fun wx => by
        rw [hc']; exact index_str9 Tryd.underlying9 s (pos + 1) hp1 wx
      have hd1 : decide ((pos : Int) + 1 < (s.size : Int)) = true := by simp; omega
      have hd2 : decide (pos + 1 < s.size) = true := by simp; omega
      have h61' : ((c' : Int) == 61) = false := by simp; omega
      have h61d : decide (c' = 61) = false := by simp; omega
      clear hc' h5 h61
      go_enter Tryd.func9, Tryd.ntmps9
      go_wp2
      go_quiet (fail)
      go_wp2
      go_quiet (fail)
      go_wp2_with (go_at_call 17; refine (unhide (CM _)).mono ?_; rintro e w1 ⟨rfl, rfl⟩)
      go_ret
      exact (HI _).out.stop (.inl HF.out)
    · have hd1 : decide ((pos : Int) + 1 < (s.size : Int)) = false := by simp; omega
      have hd2 : decide (pos + 1 < s.size) = false := by simp; omega
      clear h5 hp1
      go_enter Tryd.func9, Tryd.ntmps9
      go_wp2
      go_quiet (fail)
      go_wp2
      go_quiet (fail)
      go_wp2_with (go_at_call 17; refine (unhide (CM _)).mono ?_; rintro e w1 ⟨rfl, rfl⟩)
      go_ret
      exact (HI _).out.stop (.inl HF.out)
  · have h58' : ((c : Int) == 58) = false := by simp; omega
    have h58d : decide (c = 58) = false := by simp; omega
    clear h5
    simp only [letterQ, figureQ, decide_eq_false_iff_not] at h3 h4
    have main : (c < 48 ∨ 57 < c ∧ c < 97 ∨ 122 < c) := by omega
    clear h3 h4 h58 hb8
    rcases main with h48 | ⟨h57, h97⟩ | h122
    · have h48' : ¬ (48 : Int) ≤ (c : Int) := by omega
      have h97' : ¬ (97 : Int) ≤ (c : Int) := by omega
      go_enter Tryd.func9, Tryd.ntmps9
      go_wp2
      go_quiet (fail)
      go_wp2
      go_quiet (fail)
      go_wp2_with (go_at_call 17; refine (unhide (CM _)).mono ?_; rintro e w1 ⟨rfl, rfl⟩)
      go_ret
      exact (HI _).out.stop (.inl HF.out)
    · have h48' : (48 : Int) ≤ (c : Int) := by omega
      have h57' : ¬ (c : Int) ≤ 57 := by omega
      have h97' : ¬ (97 : Int) ≤ (c : Int) := by omega
      go_enter Tryd.func9, Tryd.ntmps9
      go_wp2
      go_quiet (fail)
      go_wp2
      go_quiet (fail)
      go_wp2_with (go_at_call 17; refine (unhide (CM _)).mono ?_; rintro e w1 ⟨rfl, rfl⟩)
      go_ret
      exact (HI _).out.stop (.inl HF.out)
    · have h48' : (48 : Int) ≤ (c : Int) := by omega
      have h57' : ¬ (c : Int) ≤ 57 := by omega
      have h97' : (97 : Int) ≤ (c : Int) := by omega
      have h122' : ¬ (c : Int) ≤ 122 := by omega
      go_enter Tryd.func9, Tryd.ntmps9
      go_wp2
      go_quiet (fail)
      go_wp2
      go_quiet (fail)
      go_wp2_with (go_at_call 17; refine (unhide (CM _)).mono ?_; rintro e w1 ⟨rfl, rfl⟩)
      go_ret
      exact (HI _).out.stop (.inl HF.out)

theorem one_any (g : Nat) (s : ByteArray) (pos : Nat) (v : Value) (acc : List Sg) (w : World) (hs : s.size ≤ 1500) (hp : pos < s.size) (C : ScAt w g s pos v) (ho : w.ownsRow (g + 1) 36 4 v acc.length (sgCells acc)) (hal : acc.length ≤ 500)
    (h1 : blankQ s[pos].toNat = false) (h2 : s[pos].toNat ≠ 35) : Calls Tryd.prog 9 #[.pointer (some ⟨g, 0, none⟩)] w (OneEnd g s pos acc w) := by
  cases h3 : letterQ s[pos].toNat with
  | true => exact one_letter g s pos v acc w hs hp C ho hal h3
  | false =>
    cases h4 : figureQ s[pos].toNat with
    | true => exact one_figure g s pos v acc w hs hp C ho hal h4
    | false =>
      by_cases h5 : s[pos].toNat = 58 ∧ (rest s (pos + 1)).head?.map UInt8.toNat = some 61
      · obtain ⟨h58, h61⟩ := h5
        by_cases hp1 : pos + 1 < s.size
        · rw [rest_cons s _ hp1] at h61
          exact one_set g s pos v acc w hs hp C ho hal hp1 h58 (by simpa using h61)
        · rw [rest_end s _ hp1] at h61
          simp at h61
      · cases h6 : markQ s[pos].toNat with
        | true => exact one_mark g s pos v acc w hs hp C ho hal h6
        | false => exact one_none g s pos v acc w hs hp C ho h1 h2 h3 h4 h5 h6
end Go.Proofs.YtfnmpohcoabenaaDoor
