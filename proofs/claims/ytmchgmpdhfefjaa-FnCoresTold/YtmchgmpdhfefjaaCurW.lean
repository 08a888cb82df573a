/-
  Walks: the drawing of bytes and numbers: whatever is drawn lies in its bounds; nothing but the cursor is written.
-/
import Derived.Test.YtmchgmpdhfefjaaProg
import Derived.Test.YtmchgmpdhfefjaaAid
import Derived.WalkKit
import Derived.BigQuiet
import Derived.Laws.BitsAllLaws
import Derived.Deep.RegionHeld3
namespace Go.Proofs.Ytmchgmpdhfefjaa
open Go.RowKit

theorem and_low (e : Int) : ∃ x : Nat, x < 256 ∧ bits .and .i64 e 255 = (x : Int) := by
  refine ⟨(BitVec.ofInt 64 e &&& BitVec.ofInt 64 255).toNat, ?_, ?_⟩
  · rw [BitVec.toNat_and]
    exact Nat.lt_of_le_of_lt Nat.and_le_right (by decide)
  · have h : (BitVec.ofInt 64 e &&& BitVec.ofInt 64 255).toNat < 256 := by
      rw [BitVec.toNat_and]
      exact Nat.lt_of_le_of_lt Nat.and_le_right (by decide)
    show IntKind.i64.wrap (((BitVec.ofInt 64 e &&& BitVec.ofInt 64 255).toNat : Nat) : Int) = _
    exact IntWalk.i64_in _ (by omega)

/-- The cursor: its block's three cells. -/
structure CurAt (w : World) (g : Nat) (v : Value) (n i : Nat) (h : Int) : Prop where
  le : i ≤ n
  c0 : w.cell? ⟨g, 0, none⟩ = some v
  c1 : w.cell? ⟨g, 1, none⟩ = some (.int .i64 (i : Int))
  c2 : w.cell? ⟨g, 2, none⟩ = some (.int .i64 h)
  f1 : w.frozen? ⟨g, 1, none⟩ = false
  f2 : w.frozen? ⟨g, 2, none⟩ = false
/-- The drawn bytes: a row of bytes somewhere below the base. -/
def CodeAt (w : World) (base : Nat) (v : Value) (n : Nat) : Prop :=
  (v = .slice none 0 0 ∧ n = 0) ∨ ∃ (ad : Addr) (cap : Nat) (xs : List Nat), v = .slice (some ad) n cap ∧ n ≤ cap ∧ ∀ j, j < n → ad.block < base ∧ xs.getD j 0 < 256 ∧ w.cell? (ad.add j) = some (.int .u8 ((xs.getD j 0 : Nat) : Int))
/-- Nothing but one block's cells is written; nothing is made. -/
structure Only (g : Nat) (w w' : World) : Prop where
  bel : Below g w w'
  size : w'.heap.size = w.heap.size
  far : ∀ b, b ≠ g → w'.heap[b]? = w.heap[b]?

theorem ne_off {g a b : Nat} (h : a ≠ b) : (⟨g, a, none⟩ : Addr) ≠ ⟨g, b, none⟩ := fun e => h (by injection e)
/-- The cursor's number is written. -/
theorem CurAt.setH {w : World} {g : Nat} {v : Value} {n i : Nat} {h : Int} (C : CurAt w g v n i h) (h' : Int) : CurAt (w.setCell ⟨g, 2, none⟩ (.int .i64 h')) g v n i h' :=
  ⟨C.le, by rw [World.cell?_setCell_other (h := ne_off (by decide))]; exact C.c0, by rw [World.cell?_setCell_other (h := ne_off (by decide))]; exact C.c1, World.cell?_setCell_same _ _ _ C.c2,
    by rw [World.frozen?_setCell]; exact C.f1, by rw [World.frozen?_setCell]; exact C.f2⟩
theorem CurAt.setI {w : World} {g : Nat} {v : Value} {n i : Nat} {h : Int} (C : CurAt w g v n i h) (i' : Nat) (hi : i' ≤ n) : CurAt (w.setCell ⟨g, 1, none⟩ (.int .i64 (i' : Int))) g v n i' h :=
  ⟨hi, by rw [World.cell?_setCell_other (h := ne_off (by decide))]; exact C.c0, World.cell?_setCell_same _ _ _ C.c1, by rw [World.cell?_setCell_other (h := ne_off (by decide))]; exact C.c2,
    by rw [World.frozen?_setCell]; exact C.f1, by rw [World.frozen?_setCell]; exact C.f2⟩
theorem Only.refl (g : Nat) (w : World) : Only g w w := ⟨Below.refl _ _, rfl, fun _ _ => rfl⟩
theorem Only.trans {g : Nat} {a b c : World} (h : Only g a b) (k : Only g b c) : Only g a c :=
  ⟨h.bel.trans k.bel, k.size.trans h.size, fun b hb => (k.far b hb).trans (h.far b hb)⟩
theorem Only.setCell {g o : Nat} (w : World) (v : Value) : Only g w (w.setCell ⟨g, o, none⟩ v) :=
  ⟨Below.setCell (p := ⟨g, o, none⟩) (Below.refl g w) (Nat.le_refl g) v, by simp [World.setCell], fun b hb => Below.heap_setCell w _ _ b hb⟩
theorem Only.drewN {g : Nat} (w : World) (n : Nat) : Only g w (w.drewN n) := ⟨⟨rfl, rfl, rfl, Nat.le_refl _, fun _ _ => rfl⟩, rfl, fun _ _ => rfl⟩
theorem CurAt.drewN {w : World} {g : Nat} {v : Value} {n i : Nat} {h : Int} (C : CurAt w g v n i h) (q : Nat) : CurAt (w.drewN q) g v n i h := ⟨C.le, C.c0, C.c1, C.c2, C.f1, C.f2⟩

theorem byte_end (w : World) (g : Nat) (v : Value) (n i : Nat) (h : Int) (hn : n ≤ 1048576) (hv : ∃ a c, v = .slice a n c) (C : CurAt w g v n i h) (hi : i = n) :
    Calls Try.prog 37 #[.pointer (some ⟨g, 0, none⟩)] w fun e w' => ∃ (x : Nat), x < 256 ∧ e = .returned (.int .i64 x) ∧ Only g w w' ∧ ∃ i' h', CurAt w' g v n i' h' := by
  obtain ⟨a, c, rfl⟩ := hv
  subst hi
  have HS := hide (fun h' => C.setH h')
  obtain ⟨le, c0, c1, c2, f1, f2⟩ := C
  go_enter Try.func37, Try.ntmps37
  go_wp2
  generalize wrap64 (wrap64 (h * 6364136223846793005) + 1442695040888963407) = h1
  have HO : Hid (Only g w (w.setCell ⟨g, 2, none⟩ (.int .i64 h1))) := Only.setCell _ _
  have C1 := HS.out h1
  generalize w.setCell ⟨g, 2, none⟩ (.int .i64 h1) = w1 at *
  clear c0 c1 c2 f1 f2 HS
  have HC := hide C1
  obtain ⟨_, c0, c1, c2, f1, f2⟩ := C1
  obtain ⟨x, hx, ex⟩ := and_low (bits .xor .i64 (h1 / 8589934592) (h1 / 35184372088832))
  go_quiet (fail)
  go_wp2
  go_quiet (fail)
  go_wp2
  go_ret
  exact ⟨x, hx, rfl, (HO.out.trans (Only.drewN _ _)).trans (Only.drewN _ _), _, _, (HC.out.drewN _).drewN _⟩

theorem byte_in (w : World) (g : Nat) (ad : Addr) (n cap i y : Nat) (h : Int) (hn : n ≤ 1048576) (C : CurAt w g (.slice (some ad) n cap) n i h) (hi : i < n) (hg : ad.block ≠ g) (hy : y < 256) (hc : w.cell? (ad.add i) = some (.int .u8 (y : Int))) :
    Calls Try.prog 37 #[.pointer (some ⟨g, 0, none⟩)] w fun e w' => ∃ (x : Nat), x < 256 ∧ e = .returned (.int .i64 x) ∧ Only g w w' ∧ ∃ i' h', CurAt w' g (.slice (some ad) n cap) n i' h' := by
  have HS := hide (fun h' => C.setH h')
  have hcm : ∀ h', (w.setCell ⟨g, 2, none⟩ (.int .i64 h')).cell? (ad.add i) = some (.int .u8 (y : Int)) := fun h' => by
    rw [World.cell?_setCell_far _ _ _ _ (show g ≠ (ad.add i).block from fun e => hg (e.trans (by simp only [Addr.add]; split <;> rfl)).symm)]; exact hc
  have HM := hide hcm
  clear hcm hc
  obtain ⟨le, c0, c1, c2, f1, f2⟩ := C
  go_enter Try.func37, Try.ntmps37
  go_wp2
  generalize wrap64 (wrap64 (h * 6364136223846793005) + 1442695040888963407) = h1
  have HO : Hid (Only g w (w.setCell ⟨g, 2, none⟩ (.int .i64 h1))) := Only.setCell _ _
  have C1 := HS.out h1
  have hc := HM.out h1
  generalize w.setCell ⟨g, 2, none⟩ (.int .i64 h1) = w1 at *
  clear c0 c1 c2 f1 f2 HS HM
  have HC := hide C1
  obtain ⟨_, c0, c1, c2, f1, f2⟩ := C1
  obtain ⟨x, hx, ex⟩ := and_low (bits .xor .i64 (h1 / 8589934592) (h1 / 35184372088832))
  obtain ⟨z, hz, ez⟩ := and_low ((x : Int) + (y : Int))
  go_quiet (fail)
  go_wp2
  go_quiet (fail)
  go_wp2
  go_quiet (fail)
  go_wp2
  go_ret
  have hC : ∀ q, CurAt ((w1.drewN q).setCell ⟨g, 1, none⟩ (.int .i64 ((i : Int) + 1))) g (.slice (some ad) n cap) n (i + 1) h1 := fun q => (HC.out.drewN q).setI (i + 1) hi
  exact ⟨z, hz, rfl, (HO.out.trans (Only.drewN _ _)).trans (Only.setCell _ _), i + 1, h1, hC _⟩
end Go.Proofs.Ytmchgmpdhfefjaa

namespace Go.Proofs.Ytmchgmpdhfefjaa
open Go.RowKit

/-- Nothing old but one block is written. -/
structure Far (g : Nat) (w w' : World) : Prop where
  os : w'.os = w.os
  tape : w'.tape = w.tape
  output : w'.output = w.output
  size : w.heap.size ≤ w'.heap.size
  far : ∀ b, b ≠ g → b < w.heap.size → w'.heap[b]? = w.heap[b]?
theorem Far.refl (g : Nat) (w : World) : Far g w w := ⟨rfl, rfl, rfl, Nat.le_refl _, fun _ _ _ => rfl⟩
theorem Far.trans {g : Nat} {a b c : World} (h : Far g a b) (k : Far g b c) : Far g a c :=
  ⟨k.os.trans h.os, k.tape.trans h.tape, k.output.trans h.output, Nat.le_trans h.size k.size, fun i hi hl => (k.far i hi (Nat.lt_of_lt_of_le hl h.size)).trans (h.far i hi hl)⟩
theorem Only.toFar {g : Nat} {w w' : World} (h : Only g w w') : Far g w w' := ⟨h.bel.os, h.bel.tape, h.bel.output, Nat.le_of_eq h.size.symm, fun b hb _ => h.far b hb⟩
theorem Far.ofBelow {g : Nat} {w w' : World} (h : Below w.heap.size w w') : Far g w w' := ⟨h.os, h.tape, h.output, h.size, fun b _ hl => h.block b hl⟩
theorem Far.below {g B : Nat} {w w' : World} (h : Far g w w') (hg : B ≤ g) (hs : B ≤ w.heap.size) : Below B w w' :=
  ⟨h.os, h.tape, h.output, h.size, fun b hb => h.far b (by omega) (by omega)⟩
theorem Below.far' {g B : Nat} {a w w' : World} (h : Far g a w) (hB : a.heap.size ≤ B) (k : Below B w w') : Far g a w' :=
  ⟨k.os.trans h.os, k.tape.trans h.tape, k.output.trans h.output, Nat.le_trans h.size k.size, fun b hb hl => (k.block b (by omega)).trans (h.far b hb hl)⟩
/-- A row that is owned stays where another block is written. -/
theorem ownsRow_far {g : Nat} {w w' : World} {base : Nat} {e : TypeId} {v : Value} {n : Nat} {xs : List Value} (h : w.ownsRow base e 1 v n xs) (hf : Far g w w') (hg : g < base) : w'.ownsRow base e 1 v n xs := by
  refine ⟨h.1, ?_⟩
  rcases h.2 with ⟨h1, h2⟩ | ⟨b, cap, cur, h1, h2, h3, h4, h5, h6, h7⟩
  · exact .inl ⟨h1, h2⟩
  · refine .inr ⟨b, cap, cur, h1, h2, ?_, h4, h5, h6, h7⟩
    rw [hf.far b (by omega) (by have := (Array.getElem?_eq_some_iff.1 h3).1; exact this)]
    exact h3

/-- A cursor that stands. -/
structure Cur (w : World) (base g : Nat) : Prop where
  ge : base ≤ g
  lt : g < w.heap.size
  at_ : ∃ v n i h, n ≤ 1048576 ∧ CurAt w g v n i h ∧ CodeAt w base v n
theorem CodeAt.below {w w' : World} {base : Nat} {v : Value} {n : Nat} (h : CodeAt w base v n) (hb : Below base w w') : CodeAt w' base v n := by
  rcases h with h | ⟨ad, cap, xs, e, hc, hx⟩
  · exact .inl h
  · refine .inr ⟨ad, cap, xs, e, hc, fun j hj => ?_⟩
    obtain ⟨h1, h2, h3⟩ := hx j hj
    have hbk : (ad.add j).block < base := by simp only [Addr.add]; split <;> exact h1
    exact ⟨h1, h2, by rw [hb.cell hbk]; exact h3⟩
theorem CurAt.below {w w' : World} {g : Nat} {v : Value} {n i : Nat} {h : Int} (C : CurAt w g v n i h) (hb : Below (g + 1) w w') : CurAt w' g v n i h := by
  have hc : ∀ o, w'.cell? ⟨g, o, none⟩ = w.cell? ⟨g, o, none⟩ := fun o => hb.cell (p := ⟨g, o, none⟩) (by show g < g + 1; omega)
  have hf : ∀ o, w'.frozen? ⟨g, o, none⟩ = w.frozen? ⟨g, o, none⟩ := fun o => hb.frozen (p := ⟨g, o, none⟩) (by show g < g + 1; omega)
  exact ⟨C.le, by rw [hc]; exact C.c0, by rw [hc]; exact C.c1, by rw [hc]; exact C.c2, by rw [hf]; exact C.f1, by rw [hf]; exact C.f2⟩
theorem Cur.below {w w' : World} {base g : Nat} (C : Cur w base g) (hb : Below (g + 1) w w') : Cur w' base g := by
  obtain ⟨v, n, i, h, hn, hc, hd⟩ := C.at_
  exact ⟨C.ge, Nat.lt_of_lt_of_le C.lt hb.size, v, n, i, h, hn, hc.below hb, hd.below (hb.mono (by have := C.ge; omega))⟩
theorem CodeAt.slice {w : World} {base : Nat} {v : Value} {n : Nat} (h : CodeAt w base v n) : ∃ a c, v = .slice a n c := by
  rcases h with ⟨rfl, rfl⟩ | ⟨ad, cap, xs, rfl, _, _⟩
  · exact ⟨_, _, rfl⟩
  · exact ⟨_, _, rfl⟩

theorem byte_any (w : World) (base g : Nat) (C : Cur w base g) :
    Calls Try.prog 37 #[.pointer (some ⟨g, 0, none⟩)] w fun e w' => ∃ (x : Nat), x < 256 ∧ e = .returned (.int .i64 x) ∧ Far g w w' ∧ Cur w' base g := by
  obtain ⟨v, n, i, h, hn, hc, hd⟩ := C.at_
  by_cases hi : i = n
  · refine (byte_end w g v n i h hn hd.slice hc hi).mono fun e w' ⟨x, hx, he, ho, i', h', hc'⟩ => ⟨x, hx, he, ho.toFar, ⟨C.ge, by rw [ho.size]; exact C.lt, v, n, i', h', hn, hc', hd.below (ho.bel.mono C.ge)⟩⟩
  · have hlt : i < n := Nat.lt_of_le_of_ne hc.le hi
    rcases hd with ⟨_, rfl⟩ | ⟨ad, cap, xs, rfl, hcap, hx⟩
    · omega
    · have hd : CodeAt w base (.slice (some ad) n cap) n := .inr ⟨ad, cap, xs, rfl, hcap, hx⟩
      obtain ⟨h1, h2, h3⟩ := hx i hlt
      have hg : ad.block ≠ g := by have := C.ge; omega
      refine (byte_in w g ad n cap i _ h hn hc hlt hg h2 h3).mono fun e w' ⟨x, hx, he, ho, i', h', hc'⟩ => ⟨x, hx, he, ho.toFar, ⟨C.ge, by rw [ho.size]; exact C.lt, _, n, i', h', hn, hc', hd.below (ho.bel.mono C.ge)⟩⟩

/-- A number below a bound is drawn. -/
theorem below_any (w : World) (base g : Nat) (n : Nat) (hn : n ≤ 4294967296) (C : Cur w base g) :
    Calls Try.prog 22 #[.pointer (some ⟨g, 0, none⟩), .int .i64 n] w fun e w' => ∃ (x : Nat), (x < n ∨ n = 0 ∧ x = 0) ∧ e = .returned (.int .i64 x) ∧ Far g w w' ∧ Cur w' base g := by
  by_cases h0 : n = 0
  · subst h0
    go_enter Try.func22, Try.ntmps22
    go_wp2
    go_ret
    exact ⟨0, .inr (by simp), rfl, Far.refl _ _, C⟩
  · by_cases h1 : n ≤ 256
    · have HC := hide C
      clear C
      go_enter Try.func22, Try.ntmps22
      go_wp2_with (go_at_call 37; refine (byte_any _ base g HC.out).mono ?_; rintro e w1 ⟨x, hx, rfl, hf, hc⟩)
      go_ret
      exact ⟨x % n, .inl (Nat.mod_lt _ (by omega)), rfl, hf, hc⟩
    · have HC := hide C
      clear C
      go_enter Try.func22, Try.ntmps22
      go_wp2_with (first | (go_at_call 37; refine (byte_any _ base g HC.out).mono ?_; rintro e w1 ⟨x1, hx1, rfl, hf1, hc1⟩) | (go_at_call 37; refine (byte_any _ base g hc1).mono ?_; rintro e w2 ⟨x2, hx2, rfl, hf2, hc2⟩) | (go_at_call 37; refine (byte_any _ base g hc2).mono ?_; rintro e w3 ⟨x3, hx3, rfl, hf3, hc3⟩) | (go_at_call 37; refine (byte_any _ base g hc3).mono ?_; rintro e w4 ⟨x4, hx4, rfl, hf4, hc4⟩))
      go_ret
      exact ⟨(x1 * 16777216 + x2 * 65536 + x3 * 256 + x4) % n, .inl (Nat.mod_lt _ (by omega)), rfl, ((hf1.trans hf2).trans hf3).trans hf4, hc4⟩
theorem Try.infoB : (Try.prog.info? 5).map (fun i => (i.zero, i.size, i.bytes)) = some (some (.int .u8 0), 1, 1) := by kernel_rfl
theorem Try.infoI : (Try.prog.info? 3).map (fun i => (i.zero, i.size, i.bytes)) = some (some (.int .i64 0), 1, 8) := by kernel_rfl
end Go.Proofs.Ytmchgmpdhfefjaa

namespace Go.Proofs.Ytmchgmpdhfefjaa
open Go.RowKit

/-- What the loop over the drawn bytes keeps: nothing of the world turns. -/
def NewRel (w : World) (n : Nat) (h i : Value) (wr : World) : Prop := ∃ (k : Nat) (x : Int), k ≤ n ∧ h = .int .i64 x ∧ i = .int .i64 k ∧ w = wr

theorem cur_new (w : World) (base : Nat) (v : Value) (n : Nat) (x : Int) (hn : n ≤ 1048576) (H : CodeAt w base v n) (hb : base ≤ w.heap.size) :
    Cur (w.alloc (.cells #[v, .int .i64 0, .int .i64 x] 74)) base w.heap.size := by
  have e : (w.alloc (.cells #[v, .int .i64 0, .int .i64 x] 74)).heap[w.heap.size]? = some (.cells #[v, .int .i64 0, .int .i64 x] 74) := heap_alloc_new w _
  refine ⟨hb, (Array.getElem?_eq_some_iff.1 e).1, v, n, 0, x, hn, ?_, H.below ((Below.refl _ _).alloc hb _)⟩
  exact ⟨Nat.zero_le _, by unfold World.cell?; rw [e]; rfl, by unfold World.cell?; rw [e]; rfl, by unfold World.cell?; rw [e]; rfl, by unfold World.frozen?; rw [e]; rfl, by unfold World.frozen?; rw [e]; rfl⟩

theorem new_any (w : World) (base : Nat) (v : Value) (n : Nat) (hn : n ≤ 1048576) (H : CodeAt w base v n) (hb : base ≤ w.heap.size) :
    Calls Try.prog 21 #[v] w fun e w' => e = .returned (.pointer (some ⟨w.heap.size, 0, none⟩)) ∧ Below w.heap.size w w' ∧ Cur w' base w.heap.size := by
  obtain ⟨a, c, rfl⟩ := H.slice
  have HH := hide H
  clear H
  go_enter Try.func21, Try.ntmps21
  go_wp2
  go_loopw [3, 4] (fun h i wr => NewRel w n h i wr) (fun _ i _ => n - (intOf i).toNat)
  case atStart => exact ⟨0, _, Nat.zero_le _, rfl, rfl, rfl⟩
  case round =>
    obtain ⟨k, x, hk, rfl, rfl, rfl⟩ := hrel
    by_cases hlt : k < n
    · by_cases h4 : k < 4000
      · rcases HH.out with ⟨_, h0⟩ | ⟨ad, cap, xs, e, hcap, hx⟩
        · omega
        · injection e with e1 e2 e3
          subst e1 e3
          obtain ⟨h1, h2, h3⟩ := hx k hlt
          generalize xs.getD k 0 = y at *
          clear hx HH
          have b4 : decide ((k : Int) < 4000) = true := by rw [decide_eq_true_eq]; omega
          clear h4
          go_wp2
          go_roundw
          case rel => exact ⟨k + 1, _, hlt, rfl, by go_num, rfl⟩
          case measure => simp [intOf]; omega
      · have b4 : decide ((k : Int) < 4000) = false := by rw [decide_eq_false_iff_not]; omega
        clear h4
        go_wp2
        go_ret
        exact ⟨rfl, (Below.refl _ _).alloc (Nat.le_refl _) _, cur_new _ _ _ _ _ hn HH.out hb⟩
    · go_wp2
      go_ret
      exact ⟨rfl, (Below.refl _ _).alloc (Nat.le_refl _) _, cur_new _ _ _ _ _ hn HH.out hb⟩
end Go.Proofs.Ytmchgmpdhfefjaa
