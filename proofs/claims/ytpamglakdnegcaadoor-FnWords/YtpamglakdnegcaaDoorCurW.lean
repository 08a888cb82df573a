/-
  Walks: the drawing of bytes and numbers: whatever is drawn lies in its bounds; nothing but the cursor is written.
-/
import Derived.Test.YtpamglakdnegcaaDoorProg
import Derived.Test.YtpamglakdnegcaaDoorAid
import Derived.WalkKit
import Derived.BigQuiet
import Derived.Laws.BitsAllLaws
import Derived.Deep.RegionHeld3
namespace Go.Proofs.YtpamglakdnegcaaDoor
open Go.RowKit

theorem and_low (e : Int) : ∃ x : Nat, x < 256 ∧ bits .and .i64 e 255 = (x : Int) := by
  refine ⟨(BitVec.ofInt 64 e &&& BitVec.ofInt 64 255).toNat, ?_, ?_⟩
  · rw [BitVec.toNat_and]
    exact Nat.lt_of_le_of_lt Nat.and_le_right (by decide)
  · have h : (BitVec.ofInt 64 e &&& BitVec.ofInt 64 255).toNat < 256 := by
      rw [BitVec.toNat_and]
      exact Nat.lt_of_le_of_lt Nat.and_le_right (by decide)
    show IntKind.i64.wrap (((BitVec.ofInt 64 e &&& BitVec.ofInt 64 255).toNat : Nat) : Int) = _
    exact IntWalk.i64_in _ (by omega)

/-- The cursor: its block's three cells. -/
structure CurAt (w : World) (g : Nat) (v : Value) (n i : Nat) (h : Int) : Prop where
  le : i ≤ n
  c0 : w.cell? ⟨g, 0, none⟩ = some v
  c1 : w.cell? ⟨g, 1, none⟩ = some (.int .i64 (i : Int))
  c2 : w.cell? ⟨g, 2, none⟩ = some (.int .i64 h)
  f1 : w.frozen? ⟨g, 1, none⟩ = false
  f2 : w.frozen? ⟨g, 2, none⟩ = false
/-- The drawn bytes: a row of bytes somewhere below the base. -/
def CodeAt (w : World) (base : Nat) (v : Value) (n : Nat) : Prop :=
  (v = .slice none 0 0 ∧ n = 0) ∨ ∃ (ad : Addr) (cap : Nat) (xs : List Nat), v = .slice (some ad) n cap ∧ n ≤ cap ∧ ∀ j, j < n → ad.block < base ∧ xs.getD j 0 < 256 ∧ w.cell? (ad.add j) = some (.int .u8 ((xs.getD j 0 : Nat) : Int))
/-- Nothing but one block's cells is written; nothing is made. -/
structure Only (g : Nat) (w w' : World) : Prop where
  bel : Below g w w'
  size : w'.heap.size = w.heap.size
  far : ∀ b, b ≠ g → w'.heap[b]? = w.heap[b]?

theorem ne_off {g a b : Nat} (h : a ≠ b) : (⟨g, a, none⟩ : Addr) ≠ ⟨g, b, none⟩ := fun e => h (by injection e)
/-- The cursor's number is written. -/
theorem CurAt.setH {w : World} {g : Nat} {v : Value} {n i : Nat} {h : Int} (C : CurAt w g v n i h) (h' : Int) : CurAt (w.setCell ⟨g, 2, none⟩ (.int .i64 h')) g v n i h' :=
  ⟨C.le, by rw [World.cell?_setCell_other (h := ne_off (by decide))]; exact C.c0, by rw [World.cell?_setCell_other (h := ne_off (by decide))]; exact C.c1, World.cell?_setCell_same _ _ _ C.c2,
    by rw [World.frozen?_setCell]; exact C.f1, by rw [World.frozen?_setCell]; exact C.f2⟩
theorem CurAt.setI {w : World} {g : Nat} {v : Value} {n i : Nat} {h : Int} (C : CurAt w g v n i h) (i' : Nat) (hi : i' ≤ n) : CurAt (w.setCell ⟨g, 1, none⟩ (.int .i64 (i' : Int))) g v n i' h :=
  ⟨hi, by rw [World.cell?_setCell_other (h := ne_off (by decide))]; exact C.c0, World.cell?_setCell_same _ _ _ C.c1, by rw [World.cell?_setCell_other (h := ne_off (by decide))]; exact C.c2,
    by rw [World.frozen?_setCell]; exact C.f1, by rw [World.frozen?_setCell]; exact C.f2⟩
theorem Only.refl (g : Nat) (w : World) : Only g w w := ⟨Below.refl _ _, rfl, fun _ _ => rfl⟩
theorem Only.trans {g : Nat} {a b c : World} (h : Only g a b) (k : Only g b c) : Only g a c :=
  ⟨h.bel.trans k.bel, k.size.trans h.size, fun b hb => (k.far b hb).trans (h.far b hb)⟩
theorem Only.setCell {g o : Nat} (w : World) (v : Value) : Only g w (w.setCell ⟨g, o, none⟩ v) :=
  ⟨Below.setCell (p := ⟨g, o, none⟩) (Below.refl g w) (Nat.le_refl g) v, by simp [World.setCell], fun b hb => Below.heap_setCell w _ _ b hb⟩
theorem Only.drewN {g : Nat} (w : World) (n : Nat) : Only g w (w.drewN n) := ⟨⟨rfl, rfl, rfl, Nat.le_refl _, fun _ _ => rfl⟩, rfl, fun _ _ => rfl⟩
theorem CurAt.drewN {w : World} {g : Nat} {v : Value} {n i : Nat} {h : Int} (C : CurAt w g v n i h) (q : Nat) : CurAt (w.drewN q) g v n i h := ⟨C.le, C.c0, C.c1, C.c2, C.f1, C.f2⟩

theorem byte_end (w : World) (g : Nat) (v : Value) (n i : Nat) (h : Int) (hn : n ≤ 1048576) (hv : ∃ a c, v = .slice a n c) (C : CurAt w g v n i h) (hi : i = n) :
    Calls Tryd.prog 41 #[.pointer (some ⟨g, 0, none⟩)] w fun e w' => ∃ (x : Nat), x < 256 ∧ e = .returned (.int .i64 x) ∧ Only g w w' ∧ ∃ i' h', CurAt w' g v n i' h' := by
  obtain ⟨a, c, rfl⟩ := hv
  subst hi
  have HS := hide (fun h' => C.setH h')
  obtain ⟨le, c0, c1, c2, f1, f2⟩ := C
  go_enter Tryd.func41, Tryd.ntmps41
  go_wp2
  generalize wrap64 (wrap64 (h * 6364136223846793005) + 1442695040888963407) = h1
  have HO : Hid (Only g w (w.setCell ⟨g, 2, none⟩ (.int .i64 h1))) := Only.setCell _ _
  have C1 := HS.out h1
  generalize w.setCell ⟨g, 2, none⟩ (.int .i64 h1) = w1 at *
  clear c0 c1 c2 f1 f2 HS
  have HC := hide C1
  obtain ⟨_, c0, c1, c2, f1, f2⟩ := C1
  obtain ⟨x, hx, ex⟩ := and_low (bits .xor .i64 (h1 / 8589934592) (h1 / 35184372088832))
  go_quiet (fail)
  go_wp2
  go_quiet (fail)
  go_wp2
  go_ret
  exact ⟨x, hx, rfl, (HO.out.trans (Only.drewN _ _)).trans (Only.drewN _ _), _, _, (HC.out.drewN _).drewN _⟩

theorem byte_in (w : World) (g : Nat) (ad : Addr) (n cap i y : Nat) (h : Int) (hn : n ≤ 1048576) (C : CurAt w g (.slice (some ad) n cap) n i h) (hi : i < n) (hg : ad.block ≠ g) (hy : y < 256) (hc : w.cell? (ad.add i) = some (.int .u8 (y : Int))) :
    Calls Tryd.prog 41 #[.pointer (some ⟨g, 0, none⟩)] w fun e w' => ∃ (x : Nat), x < 256 ∧ e = .returned (.int .i64 x) ∧ Only g w w' ∧ ∃ i' h', CurAt w' g (.slice (some ad) n cap) n i' h' := by
  have HS := hide (fun h' => C.setH h')
  have hcm : ∀ h', (w.setCell ⟨g, 2, none⟩ (.int .i64 h')).cell? (ad.add i) = some (.int .u8 (y : Int)) := fun h' => by
    rw [World.cell?_setCell_far _ _ _ _ (show g ≠ (ad.add i).block from fun e => hg (e.trans (by simp only [Addr.add]; split <;> rfl)).symm)]; exact hc
  have HM := hide hcm
  clear hcm hc
  obtain ⟨le, c0, c1, c2, f1, f2⟩ := C
  go_enter Tryd.func41, Tryd.ntmps41
  go_wp2
  generalize wrap64 (wrap64 (h * 6364136223846793005) + 1442695040888963407) = h1
  have HO : Hid (Only g w (w.setCell ⟨g, 2, none⟩ (.int .i64 h1))) := Only.setCell _ _
  have C1 := HS.out h1
  have hc := HM.out h1
  generalize w.setCell ⟨g, 2, none⟩ (.int .i64 h1) = w1 at *
  clear c0 c1 c2 f1 f2 HS HM
  have HC := hide C1
  obtain ⟨_, c0, c1, c2, f1, f2⟩ := C1
  obtain ⟨x, hx, ex⟩ := and_low (bits .xor .i64 (h1 / 8589934592) (h1 / 35184372088832))
  obtain ⟨z, hz, ez⟩ := and_low ((x : Int) + (y : Int))
  go_quiet (fail)
  go_wp2
  go_quiet (fail)
  go_wp2
  go_quiet (fail)
  go_wp2
  go_ret
  have hC : ∀ q, CurAt ((w1.drewN q).setCell ⟨g, 1, none⟩ (.int .i64 ((i : Int) + 1))) g (.slice (some ad) n cap) n (i + 1) h1 := fun q => (HC.out.drewN q).setI (i + 1) hi
  exact ⟨z, hz, rfl, (HO.out.trans (Only.drewN _ _)).trans (Only.setCell _ _), i + 1, h1, hC _⟩
end Go.Proofs.YtpamglakdnegcaaDoor
