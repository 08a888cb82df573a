/-
  Walks: one sign, by the specification: figures, marks, what may not stand.
-/
import Derived.Test.YtfnmpohcoabenaaDoorOneW
import Derived.Test.YtfnmpohcoabenaaDoorWrtP
namespace Go.Proofs.YtfnmpohcoabenaaDoor
open Go.RowKit

/-- What the loop over figures keeps. -/
def NumRel (g xb : Nat) (s : ByteArray) (p pos : Nat) (v : Value) (acc : List Sg) (t : ByteArray) (w : World) (iv : Value) (wr : World) : Prop :=
  ∃ k : Nat, k ≤ t.size ∧ iv = .int .i64 k ∧ OneSt g xb s p v acc ⟨2, t, (figN (t.data.toList.take k) : Int), pos⟩ w wr

set_option maxRecDepth 100000 in
set_option maxHeartbeats 4000000 in
theorem one_figure (g : Nat) (s : ByteArray) (pos : Nat) (v : Value) (acc : List Sg) (w : World) (hs : s.size ≤ 1500) (hp : pos < s.size) (C : ScAt w g s pos v) (ho : w.ownsRow (g + 1) 36 4 v acc.length (sgCells acc)) (hal : acc.length ≤ 500)
    (hl : figureQ s[pos].toNat = true) : Calls Tryd.prog 9 #[.pointer (some ⟨g, 0, none⟩)] w (OneEnd g s pos acc w) := by
  obtain ⟨hk, hn⟩ := figure_kind hp hl
  have hq : rangeQ 48 57 = figureQ := rfl
  have hgl := C.lt
  have HI := fun q => hide (OneSt.init C ho q ⟨0, ⟨#[]⟩, 0, pos⟩)
  obtain ⟨ao, cap, rfl⟩ := shape_of ho
  obtain ⟨c0, c1, c2, f1, f2⟩ := C
  clear ho
  obtain ⟨c, hc⟩ : ∃ c : Nat, c = s[pos].toNat := ⟨_, rfl⟩
  have hix : ∀ wx : World, (Instr.index 9 (.string s) (.int .i64 (pos : Int))).run Tryd.prog wx = .ok (.int .u8 (c : Int)) wx := fun wx => by
    rw [hc]; exact index_str9 Tryd.underlying9 s pos hp wx
  rw [← hc] at hl
  simp only [figureQ, decide_eq_true_eq] at hl
  obtain ⟨hl1, hl2⟩ := hl
  clear hc
  go_enter Tryd.func9, Tryd.ntmps9
  go_wp2
  go_quiet (fail)
  go_wp2_with fail
  have H1 := hide ((HI nq).out.setX 0 (.int .i64 2) ((HI nq).out.x.set0 2))
  have hrun := run_any g s pos 48 57 _ _ hs (by omega) (by omega) (by omega) H1.out.sc
  rw [hq] at hrun
  refine hrun.mono ?_
  rintro e w2 ⟨rfl, hC2, hO2⟩
  have H2 := hide (H1.out.only hO2 hC2)
  obtain ⟨n, hnn⟩ : ∃ n, n = headN figureQ (rest s pos) := ⟨_, rfl⟩
  have HNN := hide hnn
  rw [← hnn] at hn H2 ⊢
  clear hrun hC2 hO2 hnn HI c0 c1 c2 f1 f2
  have c1 : w2.cell? { block := w.heap.size, off := 1 } = some (.string ⟨#[]⟩) := H2.out.x.2.1
  have f1 : w2.frozen? { block := w.heap.size, off := 1 } = false := H2.out.fz 1
  have hpn : pos + n ≤ s.size := by
    have := sizeOfB_le (rest s pos) (by rw [rest_cons s pos hp]; simp)
    rw [rest_len, hn] at this; omega
  obtain ⟨t, ht⟩ : ∃ t, t = s.extract pos (pos + n) := ⟨_, rfl⟩
  have hts : t.size = n := by rw [ht, ByteArray.size_extract]; omega
  have H3 := hide (H2.out.setX 1 (.string t) (H2.out.x.set1 t))
  have htl : t.data.toList = (rest s pos).take n := by rw [ht]; exact part_extract s pos n
  rw [← ht]
  have hgx : g ≠ w.heap.size := by omega
  have hsg : (⟨2, t, (figN t.data.toList : Int), pos⟩ : Sg) = sgOf s pos := by rw [sgOf, hk, hn, ← ht, worthQ, if_pos rfl, htl]
  by_cases h6 : 6 < n
  · have HF : Hid (fitsQ (kindB (rest s pos)) (sizeOfB (rest s pos)) = false) := by show _ = _; rw [hk, hn, fitsQ, if_neg (by decide), if_pos rfl]; simp; omega
    have h6' : (6 : Int) < (t.size : Int) := by omega
    clear ht hn hk
    go_wp2
    go_ret
    exact H3.out.stop (.inl HF.out)
  · have HF : Hid (fitsQ (kindB (rest s pos)) (sizeOfB (rest s pos)) = true) := by show _ = _; rw [hk, hn, fitsQ, if_neg (by decide), if_pos rfl]; simp; omega
    have h6' : ¬ (6 : Int) < (t.size : Int) := by omega
    have HD : Hid (∀ j, (h : j < t.size) → 48 ≤ t[j].toNat ∧ t[j].toNat ≤ 57) := digits_of hk hn.symm htl
    have HSG0 := hide hsg
    have HN0 := hide hn
    clear ht hk hsg htl hn
    go_wp2
    go_loopw [5] (fun iv wr => NumRel g w.heap.size s (pos + n) pos (.slice ao acc.length cap) acc t w iv wr) (fun iv _ => t.size - (intOf iv).toNat)
    case atStart => exact ⟨0, Nat.zero_le _, rfl, by have := H3.out; simpa [figN] using this⟩
    case round =>
      obtain ⟨k, hkt, rfl, hst⟩ := hrel
      have H4 := hide hst
      clear hst H3 H2 H1 c1 f1
      have y1 : wr.cell? { block := w.heap.size, off := 1 } = some (.string t) := H4.out.x.2.1
      by_cases hlt : k < t.size
      · have hft := hide (figN_take t k hlt)
        have hfl := figN_lt t HD.out k hkt
        have hpw : 10 ^ k ≤ 10 ^ 6 := Nat.pow_le_pow_right (by omega) (by omega)
        obtain ⟨hd1, hd2⟩ := HD.out k hlt
        obtain ⟨c', hc'⟩ : ∃ c' : Nat, c' = t[k].toNat := ⟨_, rfl⟩
        obtain ⟨nn, hnn⟩ : ∃ nn : Nat, nn = figN (t.data.toList.take k) := ⟨_, rfl⟩
        have hix2 : ∀ wx : World, (Instr.index 9 (.string t) (.int .i64 (k : Int))).run Tryd.prog wx = .ok (.int .u8 (c' : Int)) wx := fun wx => by
          rw [hc']; exact index_str9 Tryd.underlying9 t k hlt wx
        rw [← hnn] at hft hfl H4
        rw [← hc'] at hft hd1 hd2
        have hn6 : nn ≤ 1000000 := by omega
        have e1 : IntKind.i64.wrap (10 * (nn : Int)) = 10 * (nn : Int) := IntWalk.i64_in _ (by omega)
        have e2 : IntKind.i64.wrap (10 * (nn : Int) + (c' : Int)) = 10 * (nn : Int) + (c' : Int) := IntWalk.i64_in _ (by omega)
        have e3 : IntKind.i64.wrap (10 * (nn : Int) + (c' : Int) - 48) = 10 * (nn : Int) + (c' : Int) - 48 := IntWalk.i64_in _ (by omega)
        have e4 : IntKind.i64.wrap (c' : Int) = (c' : Int) := IntWalk.i64_in _ (by omega)
        have HV : Hid (10 * (nn : Int) + (c' : Int) - 48 = ((nn * 10 + (c' - 48) : Nat) : Int)) := by show _ = _; omega
        have y2 : wr.cell? { block := w.heap.size, off := 2 } = some (.int .i64 nn) := H4.out.x.2.2.1
        have z2 : wr.frozen? { block := w.heap.size, off := 2 } = false := H4.out.fz 2
        have hi0 : (0 : Int) ≤ (k : Int) := by omega
        have hi1 : (k : Int) < (t.size : Int) := by omega
        clear hc' hnn hfl hpw
        have H5 := hide ((H4.out.setX 2 (.int .i64 (10 * (nn : Int) + (c' : Int) - 48)) (H4.out.x.set2 _)).drew1)
        go_wp2
        go_region
        all_goals
          go_wp2
          go_roundw
          case rel =>
            refine ⟨k + 1, by omega, by go_num, ?_⟩
            rw [hft.out, ← HV.out]
            exact H5.out
          case measure => simp [intOf]; omega
      · have hke : t.data.toList.take k = t.data.toList := List.take_of_length_le (by rw [Array.length_toList]; show t.size ≤ k; omega)
        rw [hke] at H4
        have hn := HN0.out
        have hsg := HSG0.out
        obtain ⟨nn, hnn⟩ : ∃ nn : Nat, nn = figN t.data.toList := ⟨_, rfl⟩
        rw [← hnn] at H4 hsg
        have hkn : k = n := by omega
        have hdd : wr.cell? { block := g, off := 2 } = some (.slice ao acc.length cap) := H4.out.sc.c2
        have H3 := H4
        clear hke hnn HSG0 H4
        by_cases h500 : acc.length < 500
        · have h5' : ¬ (500 : Int) ≤ (acc.length : Int) := by omega
          have HN1 := hide hn
          have HSG1 := hide hsg
          clear hn hsg HN0
          go_wp2
          have hn := HN1.out
          have hsg := HSG1.out
          clear HN1 HSG1 y1 hdd
          rw [hsg] at H3
          have hpp : pos + n = pos + sizeOfB (rest s pos) := by rw [hn]
          rw [hpp] at H3
          generalize wr = W3 at *
          clear hn hpp
          have x0 : W3.cell? { block := w.heap.size, off := 0 } = some (.int .i64 2) := by have := H3.out.x.1; rw [← hsg] at this; exact this
          have x1 : W3.cell? { block := w.heap.size, off := 1 } = some (.string t) := by have := H3.out.x.2.1; rw [← hsg] at this; exact this
          have x2 : W3.cell? { block := w.heap.size, off := 2 } = some (.int .i64 nn) := by have := H3.out.x.2.2.1; rw [← hsg] at this; exact this
          have x3 : W3.cell? { block := w.heap.size, off := 3 } = some (.int .i64 pos) := by have := H3.out.x.2.2.2; rw [← hsg] at this; exact this
          have e2 : W3.cell? { block := g, off := 2 } = some (.slice ao acc.length cap) := H3.out.sc.c2
          have ef : W3.frozen? { block := g, off := 2 } = false := H3.out.sc.f2
          have hg3 : g < W3.heap.size := H3.out.sc.lt
          have hx3 : w.heap.size < W3.heap.size := H3.out.lt
          have ea : ∀ o, (W3.alloc o).cell? { block := g, off := 2 } = some (.slice ao acc.length cap) := fun o => by rw [World.cell?_alloc_lt _ _ _ hg3]; exact e2
          have fa : ∀ o, (W3.alloc o).frozen? { block := g, off := 2 } = false := fun o => by rw [World.frozen?_alloc_past _ _ _ hg3]; exact ef
          have HSG := hide hsg
          clear hsg
          have HOa : Hid (((W3.alloc (.cells #[.int .i64 2, .string t, .int .i64 nn, .int .i64 pos] 36)).drew).ownsRow (g + 1) 36 4 (.slice ao acc.length cap) acc.length (sgCells acc)) := H3.out.own.alloc _
          have HNa : Hid (SgCell ((W3.alloc (.cells #[.int .i64 2, .string t, .int .i64 nn, .int .i64 pos] 36)).drew) ⟨W3.heap.size, 0, none⟩ ⟨2, t, nn, pos⟩) := SgCell.new W3 ⟨2, t, nn, pos⟩ _
          go_region_law (refine step_app4 rfl (.tmp 144) (.tmp 146) 22 rfl (g + 1) 36 _ 40 Tryd.underlying22 infoSi3' rfl (.slice ao acc.length cap) acc.length (sgCells acc) rfl (unhide HOa) ⟨W3.heap.size, 0, none⟩ ⟨2, t, nn, pos⟩ rfl (unhide HNa) (by unfold maxLen; omega) (by omega) (by simp; omega) ?_; intro v' w4 hown4 hb4; have k2 := (hb4.cell (p := ⟨g, 2, none⟩) (Nat.lt_succ_self g)).trans (ea _); have k3 := (hb4.frozen (p := ⟨g, 2, none⟩) (Nat.lt_succ_self g)).trans (fa _); have ⟨ao4, cap4, hv4⟩ := shape_of hown4; subst hv4)
          all_goals
            rw [HSG.out] at hown4
            have HE := fun q => hide (H3.out.put (Below.drew ((Below.refl _ _).alloc (Nat.le_refl _) _)) HF.out h500 hown4 hb4 q)
            go_wp2
            go_ret
            exact (HE 0).out
        · have h5' : (500 : Int) ≤ (acc.length : Int) := by omega
          clear hn hsg
          go_wp2
          go_ret
          exact H3.out.stop (.inr h500)
end Go.Proofs.YtfnmpohcoabenaaDoor
