/-
  Walks: the specification's scanner: bytes in a range, marks.
-/
import Derived.Test.YtfnmpohcoabenaaDoorSignP
import Derived.Test.YtfnmpohcoabenaaDoorRuneP
import Derived.Test.YtfnmpohcoabenaaDoorAidRow
import Derived.Test.YtfnmpohcoabenaaDoorChecked
import Derived.BigQuiet
import Derived.WalkSmall
import Derived.Deep.RegionHeld3
namespace Go.Proofs.YtfnmpohcoabenaaDoor
open Go.RowKit

/-- The scanner: its block's three cells. -/
structure ScAt (w : World) (g : Nat) (s : ByteArray) (pos : Nat) (v : Value) : Prop where
  c0 : w.cell? ⟨g, 0, none⟩ = some (.string s)
  c1 : w.cell? ⟨g, 1, none⟩ = some (.int .i64 (pos : Int))
  c2 : w.cell? ⟨g, 2, none⟩ = some v
  f1 : w.frozen? ⟨g, 1, none⟩ = false
  f2 : w.frozen? ⟨g, 2, none⟩ = false
/-- Nothing but one block's cells is written; nothing is made. -/
structure OnlyB (g : Nat) (w w' : World) : Prop where
  bel : Below g w w'
  size : w'.heap.size = w.heap.size
  far : ∀ b, b ≠ g → w'.heap[b]? = w.heap[b]?
theorem off_ne {g a b : Nat} (h : a ≠ b) : (⟨g, a, none⟩ : Addr) ≠ ⟨g, b, none⟩ := fun e => h (by injection e)
theorem ScAt.setPos {w : World} {g : Nat} {s : ByteArray} {pos : Nat} {v : Value} (C : ScAt w g s pos v) (pos' : Nat) : ScAt (w.setCell ⟨g, 1, none⟩ (.int .i64 (pos' : Int))) g s pos' v :=
  ⟨by rw [World.cell?_setCell_other (h := off_ne (by decide))]; exact C.c0, World.cell?_setCell_same _ _ _ C.c1, by rw [World.cell?_setCell_other (h := off_ne (by decide))]; exact C.c2,
    by rw [World.frozen?_setCell]; exact C.f1, by rw [World.frozen?_setCell]; exact C.f2⟩
theorem ScAt.setList {w : World} {g : Nat} {s : ByteArray} {pos : Nat} {v : Value} (C : ScAt w g s pos v) (v' : Value) : ScAt (w.setCell ⟨g, 2, none⟩ v') g s pos v' :=
  ⟨by rw [World.cell?_setCell_other (h := off_ne (by decide))]; exact C.c0, by rw [World.cell?_setCell_other (h := off_ne (by decide))]; exact C.c1, World.cell?_setCell_same _ _ _ C.c2,
    by rw [World.frozen?_setCell]; exact C.f1, by rw [World.frozen?_setCell]; exact C.f2⟩
theorem ScAt.drewN {w : World} {g : Nat} {s : ByteArray} {pos : Nat} {v : Value} (C : ScAt w g s pos v) (q : Nat) : ScAt (w.drewN q) g s pos v := ⟨C.c0, C.c1, C.c2, C.f1, C.f2⟩
theorem ScAt.stays {w w' : World} {g B : Nat} {s : ByteArray} {pos : Nat} {v : Value} (C : ScAt w g s pos v) (hb : Below B w w') (hg : g < B) : ScAt w' g s pos v :=
  ⟨(hb.cell (p := ⟨g, 0, none⟩) hg).trans C.c0, (hb.cell (p := ⟨g, 1, none⟩) hg).trans C.c1, (hb.cell (p := ⟨g, 2, none⟩) hg).trans C.c2, (hb.frozen (p := ⟨g, 1, none⟩) hg).trans C.f1, (hb.frozen (p := ⟨g, 2, none⟩) hg).trans C.f2⟩
theorem ScAt.lt {w : World} {g : Nat} {s : ByteArray} {pos : Nat} {v : Value} (C : ScAt w g s pos v) : g < w.heap.size := World.block_lt_of_cell? _ _ C.c0
theorem OnlyB.refl (g : Nat) (w : World) : OnlyB g w w := ⟨Below.refl _ _, rfl, fun _ _ => rfl⟩
theorem OnlyB.trans {g : Nat} {a b c : World} (h : OnlyB g a b) (k : OnlyB g b c) : OnlyB g a c :=
  ⟨h.bel.trans k.bel, k.size.trans h.size, fun b hb => (k.far b hb).trans (h.far b hb)⟩
theorem OnlyB.setCell {g o : Nat} (w : World) (v : Value) : OnlyB g w (w.setCell ⟨g, o, none⟩ v) :=
  ⟨Below.setCell (p := ⟨g, o, none⟩) (Below.refl g w) (Nat.le_refl g) v, by simp [World.setCell], fun b hb => Below.heap_setCell w _ _ b hb⟩
theorem OnlyB.drewN {g : Nat} (w : World) (n : Nat) : OnlyB g w (w.drewN n) := ⟨⟨rfl, rfl, rfl, Nat.le_refl _, fun _ _ => rfl⟩, rfl, fun _ _ => rfl⟩

/-- What the loop keeps: so many bytes were in the range. -/
def RunRel (g : Nat) (s : ByteArray) (q : Nat → Bool) (pos : Nat) (v : Value) (w wr : World) : Prop :=
  ∃ k : Nat, pos + k ≤ s.size ∧ Hid (∀ j, pos ≤ j → j < pos + k → ∀ h : j < s.size, q s[j].toNat = true) ∧ ScAt wr g s (pos + k) v ∧ Hid (OnlyB g w wr)

theorem headN_rest {q : Nat → Bool} {s : ByteArray} {pos k : Nat} (hk : pos + k ≤ s.size) (hA : ∀ j, pos ≤ j → j < pos + k → ∀ h : j < s.size, q s[j].toNat = true) (h : pos + k = s.size ∨ ∃ hk : pos + k < s.size, q s[pos + k].toNat = false) : headN q (rest s pos) = k := by
  have hl : s.data.toList.length = s.size := by rw [Array.length_toList]; rfl
  have hg : ∀ j (hj : pos + j < s.size), (rest s pos)[j]? = some s[pos + j] := fun j hj => by
    rw [rest, List.getElem?_drop, List.getElem?_eq_getElem (by omega)]; rfl
  refine headN_at q _ k (fun j hj => ⟨_, hg j (by omega), hA (pos + j) (by omega) (by omega) (by omega)⟩) ?_
  rcases h with h | ⟨hk, h⟩
  · exact .inl (by rw [rest_len]; omega)
  · exact .inr ⟨_, hg k hk, h⟩

def rangeQ (lo hi : Nat) (r : Nat) : Bool := decide (lo ≤ r ∧ r ≤ hi)

set_option maxRecDepth 100000 in
set_option maxHeartbeats 2000000 in
theorem run_any (g : Nat) (s : ByteArray) (pos lo hi : Nat) (v : Value) (w : World) (hs : s.size ≤ 1500) (hp : pos ≤ s.size) (_hlo : lo < 256) (_hhi : hi < 256) (C : ScAt w g s pos v) :
    Calls Tryd.prog 16 #[.pointer (some ⟨g, 0, none⟩), .int .u8 (lo : Int), .int .u8 (hi : Int)] w fun e w' =>
      e = .returned (.string (s.extract pos (pos + headN (rangeQ lo hi) (rest s pos)))) ∧ ScAt w' g s (pos + headN (rangeQ lo hi) (rest s pos)) v ∧ OnlyB g w w' := by
  have HC := hide C
  obtain ⟨c0, c1, c2, f1, f2⟩ := C
  go_enter Tryd.func16, Tryd.ntmps16
  go_wp2
  go_loopw [48] (fun _ wr => RunRel g s (rangeQ lo hi) pos v w wr) (fun _ wr => s.size - (intOf ((wr.cell? ⟨g, 1, none⟩).getD undef)).toNat)
  case atStart => exact ⟨0, by omega, fun j h1 h2 => by omega, HC.out, OnlyB.refl _ _⟩
  case round =>
    obtain ⟨k, hk, HA, HS, HO⟩ := hrel
    have HS1 := hide HS
    obtain ⟨d0, d1, d2, g1, g2⟩ := HS
    by_cases hlt : pos + k < s.size
    · obtain ⟨c, hc⟩ : ∃ c : Nat, c = s[pos + k].toNat := ⟨_, rfl⟩
      have hb8 : c < 256 := by rw [hc]; exact s[pos + k].toNat_lt
      have hix : ∀ wx : World, (Instr.index 9 (.string s) (.int .i64 ((pos + k : Nat) : Int))).run Tryd.prog wx = .ok (.int .u8 (c : Int)) wx := fun wx => by
        rw [hc]; exact index_str9 Tryd.underlying9 s (pos + k) hlt wx
      obtain ⟨p, hpk⟩ : ∃ p, pos + k = p := ⟨_, rfl⟩
      rw [hpk] at hix d1
      have hd : decide (p < s.size) = true := by simp; omega
      have HK := hide hpk
      have HV : Hid (∃ h : pos + k < s.size, s[pos + k].toNat = c) := ⟨hlt, hc.symm⟩
      have hp1 : p + 1 ≤ s.size := by omega
      clear hc hpk hlt
      by_cases h1 : lo ≤ c
      · have hd1 : decide (lo ≤ c) = true := by simp; omega
        by_cases h2 : c ≤ hi
        · have hd2 : decide (c ≤ hi) = true := by simp; omega
          have hwr : IntKind.i64.wrap ((p : Int) + 1) = (p : Int) + 1 := IntWalk.i64_in _ (by omega)
          have HA2 : Hid (∀ j, pos ≤ j → j < pos + (k + 1) → ∀ h : j < s.size, rangeQ lo hi s[j].toNat = true) := fun j h3 h4 h => by
            by_cases h5 : j < pos + k
            · exact HA.out j h3 h5 h
            · have e : j = pos + k := by omega
              subst e
              rw [HV.out.2, rangeQ]; simp; omega
          have HW : ∀ q, Hid (ScAt ((wr.drewN q).setCell ⟨g, 1, none⟩ (.int .i64 ((p : Int) + 1))) g s (pos + (k + 1)) v) := fun q => by
            have e : (p : Int) + 1 = ((pos + (k + 1) : Nat) : Int) := by have := HK.out; omega
            rw [e]
            exact (HS1.out.drewN q).setPos _
          have hp2 : pos + (k + 1) ≤ s.size := by have := HK.out; omega
          go_wp2
          go_quiet (fail)
          go_wp2
          go_roundw
          case rel => exact ⟨k + 1, hp2, HA2, (HW _).out, (HO.out.trans (OnlyB.drewN _ _)).trans (OnlyB.setCell _ _)⟩
          case measure =>
            rw [World.cell?_setCell_same _ _ _ (show (wr.drewN _).cell? ⟨g, 1, none⟩ = some _ from d1), d1]
            simp [intOf]; omega
        · have hd2 : decide (c ≤ hi) = false := by simp; omega
          have HF : Hid (headN (rangeQ lo hi) (rest s pos) = k) := headN_rest hk HA.out (.inr ⟨HV.out.1, by rw [HV.out.2, rangeQ]; simp; omega⟩)
          have hsl : ∀ wx : World, (Instr.slice 9 (.string s) (some (.int .i64 (pos : Int))) (some (.int .i64 (p : Int))) none).run Tryd.prog wx = .ok (.string (s.extract pos p)) wx := fun wx => by
            rw [run_slice_string (P := Tryd.prog) (w := wx) 9 s .i64 .i64 pos p Tryd.underlying9 (by omega) (by have := HK.out; omega) (by omega)]
            rfl
          go_wp2
          go_quiet (fail)
          go_wp2
          go_quiet (fail)
          go_wp2
          go_ret
          refine ⟨?_, ?_, (HO.out.trans (OnlyB.drewN _ _)).trans (OnlyB.drewN _ _)⟩
          · rw [HF.out, HK.out]; rfl
          · rw [HF.out]; exact (HS1.out.drewN _).drewN _
      · have hd1 : decide (lo ≤ c) = false := by simp; omega
        have HF : Hid (headN (rangeQ lo hi) (rest s pos) = k) := headN_rest hk HA.out (.inr ⟨HV.out.1, by rw [HV.out.2, rangeQ]; simp; omega⟩)
        have hsl : ∀ wx : World, (Instr.slice 9 (.string s) (some (.int .i64 (pos : Int))) (some (.int .i64 (p : Int))) none).run Tryd.prog wx = .ok (.string (s.extract pos p)) wx := fun wx => by
          rw [run_slice_string (P := Tryd.prog) (w := wx) 9 s .i64 .i64 pos p Tryd.underlying9 (by omega) (by have := HK.out; omega) (by omega)]
          rfl
        go_wp2
        go_quiet (fail)
        go_wp2
        go_quiet (fail)
        go_wp2
        go_ret
        refine ⟨?_, ?_, (HO.out.trans (OnlyB.drewN _ _)).trans (OnlyB.drewN _ _)⟩
        · rw [HF.out, HK.out]; rfl
        · rw [HF.out]; exact (HS1.out.drewN _).drewN _
    · have hd : decide (pos + k < s.size) = false := by simp; omega
      have HF : Hid (headN (rangeQ lo hi) (rest s pos) = k) := headN_rest hk HA.out (.inl (by omega))
      obtain ⟨p, hpk⟩ : ∃ p, pos + k = p := ⟨_, rfl⟩
      rw [hpk] at hd d1 hk
      have HK := hide hpk
      have hpp : pos ≤ p := by omega
      have hsl : ∀ wx : World, (Instr.slice 9 (.string s) (some (.int .i64 (pos : Int))) (some (.int .i64 (p : Int))) none).run Tryd.prog wx = .ok (.string (s.extract pos p)) wx := fun wx => by
        rw [run_slice_string (P := Tryd.prog) (w := wx) 9 s .i64 .i64 pos p Tryd.underlying9 (by omega) (by omega) (by omega)]
        rfl
      clear hpk hlt
      go_wp2
      go_quiet (fail)
      go_wp2
      go_quiet (fail)
      go_wp2
      go_ret
      refine ⟨?_, ?_, (HO.out.trans (OnlyB.drewN _ _)).trans (OnlyB.drewN _ _)⟩
      · rw [HF.out, HK.out]; rfl
      · rw [HF.out]; exact (HS1.out.drewN _).drewN _

set_option maxHeartbeats 1000000 in
theorem l04Mark_any (c : Nat) (w : World) (hc : c < 256) : Calls Tryd.prog 17 #[.int .u8 (c : Int)] w fun e w' => e = .returned (.bool (markQ c)) ∧ w' = w := by
  go_enter Tryd.func17, Tryd.ntmps17
  go_wp2
  go_loop [4] (fun iv => ∃ k : Nat, k ≤ 12 ∧ iv = .int .i64 k ∧ Hid (∀ j, j < k → [59, 44, 46, 40, 41, 43, 45, 42, 47, 37, 60, 61].getD j 0 ≠ c)) (fun i => 12 - (intOf i).toNat)
  case atStart => exact ⟨0, by omega, rfl, fun j hj => absurd hj (Nat.not_lt_zero j)⟩
  case round =>
    obtain ⟨k, hk, rfl, HA⟩ := hrel
    by_cases hlt : k < 12
    · obtain ⟨m, hm⟩ : ∃ m, m = [59, 44, 46, 40, 41, 43, 45, 42, 47, 37, 60, 61].getD k 0 := ⟨_, rfl⟩
      have hix : ∀ wx : World, (Instr.index 9 (.string ⟨#[59, 44, 46, 40, 41, 43, 45, 42, 47, 37, 60, 61]⟩) (.int .i64 (k : Int))).run Tryd.prog wx = .ok (.int .u8 (m : Int)) wx := fun wx => by
        rw [index_str9 Tryd.underlying9 ⟨#[59, 44, 46, 40, 41, 43, 45, 42, 47, 37, 60, 61]⟩ k hlt wx]
        have : ∀ k : Fin 12, ((⟨#[59, 44, 46, 40, 41, 43, 45, 42, 47, 37, 60, 61]⟩ : ByteArray)[k.val]'k.isLt).toNat = [59, 44, 46, 40, 41, 43, 45, 42, 47, 37, 60, 61].getD k.val 0 := by decide
        rw [this ⟨k, hlt⟩, hm]
      have HM := hide hm
      clear hm
      by_cases he : m = c
      · have HF : Hid (markQ c = true) := by
          show _ = _
          rw [markQ, List.contains_iff_mem, ← he, HM.out, List.getD_eq_getElem?_getD, List.getElem?_eq_getElem (show k < [59, 44, 46, 40, 41, 43, 45, 42, 47, 37, 60, 61].length from hlt)]
          exact List.getElem_mem _
        subst he
        go_wp2
        go_ret
        exact ⟨by rw [HF.out]; rfl, rfl⟩
      · have he' : ((m : Int) == (c : Int)) = false := by simp; omega
        have HA2 : Hid (∀ j, j < k + 1 → [59, 44, 46, 40, 41, 43, 45, 42, 47, 37, 60, 61].getD j 0 ≠ c) := fun j hj => by
          rcases Nat.lt_succ_iff_lt_or_eq.1 hj with hj | hj
          · exact HA.out j hj
          · subst hj; rw [← HM.out]; exact he
        go_wp2
        go_round
        case rel => exact ⟨k + 1, by omega, by go_num, HA2⟩
        case measure => simp [intOf]; omega
    · have HF : Hid (markQ c = false) := by
        show _ = _
        rw [markQ, Bool.eq_false_iff]
        intro h
        rw [List.contains_iff_mem] at h
        obtain ⟨j, hj, e⟩ := List.getElem_of_mem h
        have := HA.out j (by have : j < 12 := hj; omega)
        rw [List.getD_eq_getElem?_getD, List.getElem?_eq_getElem hj] at this
        exact this e
      go_wp2
      go_ret
      exact ⟨by rw [HF.out]; rfl, rfl⟩
end Go.Proofs.YtfnmpohcoabenaaDoor
