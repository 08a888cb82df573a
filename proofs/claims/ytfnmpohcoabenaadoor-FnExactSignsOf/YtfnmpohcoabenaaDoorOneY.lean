/-
  Walks: one sign, by the specification: marks, and what may not stand.
-/
import Derived.Test.YtfnmpohcoabenaaDoorOneX
namespace Go.Proofs.YtfnmpohcoabenaaDoor
open Go.RowKit

/-- The world behind a name, with what is known of it. -/
theorem with_world {P : Program} {c : Code} {Q : Exit → Act → World → Prop} {a : Act} {W : World} {S : World → Prop} (hS : S W) (h : ∀ W3, S W3 → Code.wp P c Q a W3) : Code.wp P c Q a W := h W hS
theorem mark_kind {s : ByteArray} {pos : Nat} (h : pos < s.size) (hm : markQ s[pos].toNat = true) : kindB (rest s pos) = 3 ∧ sizeOfB (rest s pos) = 1 ∧ s[pos].toNat < 97 ∧ (48 ≤ s[pos].toNat → 57 < s[pos].toNat) ∧ s[pos].toNat ≠ 58 := by
  have hb : ∀ c : Fin 256, markQ c.val = true → blankQ c.val = false ∧ c.val ≠ 35 ∧ letterQ c.val = false ∧ figureQ c.val = false ∧ c.val < 97 ∧ (48 ≤ c.val → 57 < c.val) ∧ c.val ≠ 58 := by decide +kernel
  obtain ⟨h1, h2, h3, h4, h5, h6, h7⟩ := hb ⟨s[pos].toNat, s[pos].toNat_lt⟩ hm
  simp only at h1 h2 h3 h4 h5 h6 h7
  refine ⟨?_, ?_, h5, h6, h7⟩
  · rw [rest_cons s pos h, kindB, h1, if_neg (by simp), if_neg h2, h3, if_neg (by simp), h4, if_neg (by simp), if_neg (fun q => h7 q.1), if_pos hm]
  · rw [rest_cons s pos h, sizeOfB, h1, if_neg (by simp), if_neg h2, h3, if_neg (by simp), h4, if_neg (by simp), if_neg (fun q => h7 q.1)]
theorem set_kind {s : ByteArray} {pos : Nat} (h : pos + 1 < s.size) (h58 : s[pos].toNat = 58) (h61 : s[pos + 1].toNat = 61) : kindB (rest s pos) = 3 ∧ sizeOfB (rest s pos) = 2 ∧ s.extract pos (pos + 2) = ⟨#[58, 61]⟩ := by
  have hp : pos < s.size := by omega
  have hq : s[pos].toNat = 58 ∧ (rest s (pos + 1)).head?.map UInt8.toNat = some 61 := ⟨h58, by rw [rest_cons s _ h]; simp [h61]⟩
  have e : rest s pos = s[pos] :: rest s (pos + 1) := rest_cons s pos hp
  have h1 : blankQ s[pos].toNat = false := by rw [h58]; rfl
  have h3 : letterQ s[pos].toNat = false := by rw [h58]; rfl
  have h4 : figureQ s[pos].toNat = false := by rw [h58]; rfl
  refine ⟨?_, ?_, ?_⟩
  · rw [e, kindB, h1, if_neg (by simp), if_neg (by omega), h3, if_neg (by simp), h4, if_neg (by simp), if_pos hq]
  · rw [e, sizeOfB, h1, if_neg (by simp), if_neg (by omega), h3, if_neg (by simp), h4, if_neg (by simp), if_pos hq]
  · apply ByteArray.ext
    apply Array.toList_inj.1
    rw [part_extract, e, rest_cons s _ h]
    have e1 : s[pos] = 58 := UInt8.toNat.inj h58
    have e2 : s[pos + 1] = 61 := UInt8.toNat.inj h61
    rw [e1, e2]
    rfl
theorem none_kind {s : ByteArray} {pos : Nat} (h : pos < s.size) (h1 : blankQ s[pos].toNat = false) (h2 : s[pos].toNat ≠ 35) (h3 : letterQ s[pos].toNat = false) (h4 : figureQ s[pos].toNat = false) (h5 : ¬ (s[pos].toNat = 58 ∧ (rest s (pos + 1)).head?.map UInt8.toNat = some 61)) (h6 : markQ s[pos].toNat = false) :
    fitsQ (kindB (rest s pos)) (sizeOfB (rest s pos)) = false := by
  have hk : kindB (rest s pos) = -1 := by
    rw [rest_cons s pos h, kindB, h1, if_neg (by simp), if_neg h2, h3, if_neg (by simp), h4, if_neg (by simp), if_neg h5, h6, if_neg (by simp)]
  rw [hk]; rfl

set_option maxRecDepth 100000 in
set_option maxHeartbeats 4000000 in
theorem one_set (g : Nat) (s : ByteArray) (pos : Nat) (v : Value) (acc : List Sg) (w : World) (hs : s.size ≤ 1500) (hp : pos < s.size) (C : ScAt w g s pos v) (ho : w.ownsRow (g + 1) 36 4 v acc.length (sgCells acc)) (hal : acc.length ≤ 500)
    (hp1 : pos + 1 < s.size) (h58 : s[pos].toNat = 58) (h61 : s[pos + 1].toNat = 61) : Calls Tryd.prog 9 #[.pointer (some ⟨g, 0, none⟩)] w (OneEnd g s pos acc w) := by
  obtain ⟨hk, hn, ht⟩ := set_kind hp1 h58 h61
  have hgl := C.lt
  have HI := fun q => hide (OneSt.init C ho q ⟨0, ⟨#[]⟩, 0, pos⟩)
  obtain ⟨ao, cap, rfl⟩ := shape_of ho
  obtain ⟨c0, c1, c2, f1, f2⟩ := C
  clear ho
  have hix : ∀ wx : World, (Instr.index 9 (.string s) (.int .i64 (pos : Int))).run Tryd.prog wx = .ok (.int .u8 58) wx := fun wx => by
    have := index_str9 Tryd.underlying9 s pos hp wx; rw [h58] at this; exact this
  have hix1 : ∀ wx : World, (Instr.index 9 (.string s) (.int .i64 ((pos : Int) + 1))).run Tryd.prog wx = .ok (.int .u8 61) wx := fun wx => by
    have := index_str9 Tryd.underlying9 s (pos + 1) hp1 wx; rw [h61] at this; exact this
  have hwr : IntKind.i64.wrap ((pos : Int) + 1) = (pos : Int) + 1 := IntWalk.i64_in _ (by omega)
  have hd1 : decide ((pos : Int) + 1 < (s.size : Int)) = true := by simp; omega
  have hd2 : decide (pos + 1 < s.size) = true := by simp; omega
  have HK := hide hk
  have HNN := hide hn
  have HTT := hide ht
  clear hk hn ht h58 h61
  have HSG : Hid ((⟨3, ⟨#[58, 61]⟩, 0, pos⟩ : Sg) = sgOf s pos) := by show _ = _; rw [sgOf, HK.out, HNN.out, HTT.out]; rfl
  have HF : Hid (fitsQ (kindB (rest s pos)) (sizeOfB (rest s pos)) = true) := by show _ = _; rw [HK.out]; rfl
  have HX : ∀ q, Hid (OneSt g w.heap.size s (pos + 2) (.slice ao acc.length cap) acc ⟨3, ⟨#[58, 61]⟩, 0, pos⟩ w (((((w.alloc (.cells #[.int .i64 0, .string ⟨#[]⟩, .int .i64 0, .int .i64 pos] 36)).drewN q).setCell ⟨w.heap.size, 0, none⟩ (.int .i64 3)).setCell ⟨w.heap.size, 1, none⟩ (.string ⟨#[58, 61]⟩)).setCell ⟨g, 1, none⟩ (.int .i64 ((pos : Int) + 2)))) := fun q =>
    (((HI q).out.setX 0 (.int .i64 3) ((HI q).out.x.set0 3)).setX 1 (.string ⟨#[58, 61]⟩) (((HI q).out.setX 0 (.int .i64 3) ((HI q).out.x.set0 3)).x.set1 ⟨#[58, 61]⟩)).setPos (pos + 2)
  by_cases h500 : acc.length < 500
  · have h5' : ¬ (500 : Int) ≤ (acc.length : Int) := by omega
    go_enter Tryd.func9, Tryd.ntmps9
    go_wp2
    go_quiet (fail)
    go_wp2
    go_quiet (fail)
    go_wp2
    refine with_world (S := fun W3 => OneSt g w.heap.size s (pos + sizeOfB (rest s pos)) (.slice ao acc.length cap) acc (sgOf s pos) w W3) ?_ ?_
    · rw [← HSG.out, HNN.out]; exact (HX _).out
    intro W3 h3
    have H3 := hide h3
    clear h3 HX HI c0 c1 c2 f1 f2 hix hix1 hd1 hd2 hwr
    have x0 : W3.cell? { block := w.heap.size, off := 0 } = some (.int .i64 3) := by have := H3.out.x.1; rw [← HSG.out] at this; exact this
    have x1 : W3.cell? { block := w.heap.size, off := 1 } = some (.string ⟨#[58, 61]⟩) := by have := H3.out.x.2.1; rw [← HSG.out] at this; exact this
    have x2 : W3.cell? { block := w.heap.size, off := 2 } = some (.int .i64 0) := by have := H3.out.x.2.2.1; rw [← HSG.out] at this; exact this
    have x3 : W3.cell? { block := w.heap.size, off := 3 } = some (.int .i64 pos) := by have := H3.out.x.2.2.2; rw [← HSG.out] at this; exact this
    have e2 : W3.cell? { block := g, off := 2 } = some (.slice ao acc.length cap) := H3.out.sc.c2
    have ef : W3.frozen? { block := g, off := 2 } = false := H3.out.sc.f2
    have hg3 : g < W3.heap.size := H3.out.sc.lt
    have hx3 : w.heap.size < W3.heap.size := H3.out.lt
    have ea : ∀ o, (W3.alloc o).cell? { block := g, off := 2 } = some (.slice ao acc.length cap) := fun o => by rw [World.cell?_alloc_lt _ _ _ hg3]; exact e2
    have fa : ∀ o, (W3.alloc o).frozen? { block := g, off := 2 } = false := fun o => by rw [World.frozen?_alloc_past _ _ _ hg3]; exact ef
    have HOa : Hid (((W3.alloc (.cells #[.int .i64 3, .string ⟨#[58, 61]⟩, .int .i64 0, .int .i64 pos] 36)).drew).ownsRow (g + 1) 36 4 (.slice ao acc.length cap) acc.length (sgCells acc)) := H3.out.own.alloc _
    have HNa : Hid (SgCell ((W3.alloc (.cells #[.int .i64 3, .string ⟨#[58, 61]⟩, .int .i64 0, .int .i64 pos] 36)).drew) ⟨W3.heap.size, 0, none⟩ ⟨3, ⟨#[58, 61]⟩, 0, pos⟩) := SgCell.new W3 ⟨3, ⟨#[58, 61]⟩, 0, pos⟩ _
    go_region_law (refine step_app4 rfl (.tmp 144) (.tmp 146) 22 rfl (g + 1) 36 _ 40 Tryd.underlying22 infoSi3' rfl (.slice ao acc.length cap) acc.length (sgCells acc) rfl (unhide HOa) ⟨W3.heap.size, 0, none⟩ ⟨3, ⟨#[58, 61]⟩, 0, pos⟩ rfl (unhide HNa) (by unfold maxLen; omega) (by omega) (by simp; omega) ?_; intro v' w4 hown4 hb4; have k2 := (hb4.cell (p := ⟨g, 2, none⟩) (Nat.lt_succ_self g)).trans (ea _); have k3 := (hb4.frozen (p := ⟨g, 2, none⟩) (Nat.lt_succ_self g)).trans (fa _); have ⟨ao4, cap4, hv4⟩ := shape_of hown4; subst hv4)
    all_goals
      rw [HSG.out] at hown4
      have HE := fun q => hide (H3.out.put (Below.drew ((Below.refl _ _).alloc (Nat.le_refl _) _)) HF.out h500 hown4 hb4 q)
      go_wp2
      go_ret
      exact (HE 0).out
  · have h5' : (500 : Int) ≤ (acc.length : Int) := by omega
    go_enter Tryd.func9, Tryd.ntmps9
    go_wp2
    go_quiet (fail)
    go_wp2
    go_quiet (fail)
    go_wp2
    go_ret
    exact (HX _).out.stop (.inr h500)
end Go.Proofs.YtfnmpohcoabenaaDoor
