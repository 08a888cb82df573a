/-
  Walk: the law of one byte that is another.
-/
import Derived.Test.YtnidmllipiiakaaDoorTurnW
import Derived.Test.YtnidmllipiiakaaDoorTurnP
namespace Go.Proofs.YtnidmllipiiakaaDoor
open Go.RowKit

theorem big_any (w : World) (a : Option Addr) (n c : Nat) : Calls Tryd.prog 8 #[.slice a n c] w fun e w' => e = .returned (.bool (decide (1048576 < n))) ∧ w = w' := by
  by_cases h : 1048576 < n
  · have b : decide (1048576 < n) = true := decide_eq_true h
    rw [b]
    have b2 : decide ((1048576 : Int) < (n : Int)) = true := by rw [decide_eq_true_eq]; omega
    clear h
    go_enter Tryd.func8, Tryd.ntmps8
    go_wp2
    go_ret
    exact ⟨rfl, rfl⟩
  · have b : decide (1048576 < n) = false := decide_eq_false h
    rw [b]
    have b2 : decide ((1048576 : Int) < (n : Int)) = false := by rw [decide_eq_false_iff_not]; omega
    clear h
    go_enter Tryd.func8, Tryd.ntmps8
    go_wp2
    go_ret
    exact ⟨rfl, rfl⟩

/-- A text's bytes in a new block. -/
theorem bytes_new (w : World) (t : ByteArray) : ∃ (cap : Nat) (w6 : World), (convert 9 22 (.string t)).run Tryd.prog w = .ok (.slice (some ⟨w.heap.size, 0, none⟩) t.size cap) w6 ∧ Below w.heap.size w w6 ∧ w.heap.size < w6.heap.size ∧
    (∀ j (hj : j < t.data.toList.length), w6.cell? ⟨w.heap.size, j, none⟩ = some (.int .u8 (t.data.toList[j].toNat : Int))) ∧ (∀ j, j < t.size → w6.frozen? ⟨w.heap.size, j, none⟩ = false) := by
  have h := run_bytes_of_string (P := Tryd.prog) w 9 22 5 t Tryd.underlying9 Tryd.underlying22 Tryd.underlying5
  refine ⟨_, _, h, ((Below.refl _ _).drew).alloc (Nat.le_refl _) _, ?_, ?_, ?_⟩
  · exact (Array.getElem?_eq_some_iff.1 (heap_alloc_new w.drew _)).1
  · intro j hj
    unfold World.cell?
    rw [show (w.drew.alloc _).heap[(⟨w.heap.size, j, none⟩ : Addr).block]? = _ from heap_alloc_new w.drew _]
    exact bytesRow_at t _ j (by simpa using hj)
  · intro j hj
    unfold World.frozen?
    rw [show (w.drew.alloc _).heap[(⟨w.heap.size, j, none⟩ : Addr).block]? = _ from heap_alloc_new w.drew _]
    have hs : t.size ≤ (bytesRow t (grownCap w t.size 0 5)).size := by
      unfold bytesRow; rw [Array.size_append, Array.size_map]; exact Nat.le_add_right _ _
    simp only [Bool.and_eq_false_iff, decide_eq_false_iff_not]
    exact .inl (by omega)

theorem row12 {w : World} {base : Nat} {pv : Value} {xs : List Nat} (hl : xs.length = 12) (h : w.ownsRow base 3 1 pv 12 (xs.map fun (x : Nat) => Value.int .i64 (x : Int))) :
    ∃ (gp cap : Nat), pv = .slice (some ⟨gp, 0, none⟩) 12 cap ∧ gp < w.heap.size ∧ ∀ j (hj : j < xs.length), w.cell? ⟨gp, j, none⟩ = some (.int .i64 (xs[j] : Int)) := by
  have h0 := h
  rcases h.2 with ⟨_, h2⟩ | ⟨b, cap, cur, rfl, h2, h3, h4, h5, h6, h7⟩
  · omega
  · refine ⟨b, cap, rfl, (Array.getElem?_eq_some_iff.1 h3).1, fun j hj => ?_⟩
    have := h0.cellAt j (by omega)
    rw [List.getElem?_map, List.getElem?_eq_getElem hj] at this
    exact this

/-- The byte is written: what the bytes are as a text then. -/
theorem turned_conv (w6 : World) (gb m cap : Nat) (t : ByteArray) (y : UInt8) (_hm : m < t.size) (hc : ∀ j (hj : j < t.data.toList.length), w6.cell? ⟨gb, j, none⟩ = some (.int .u8 (t.data.toList[j].toNat : Int))) :
    (convert 22 9 (.slice (some ⟨gb, 0, none⟩) t.size cap)).run Tryd.prog (w6.setCell ⟨gb, m, none⟩ (.int .u8 (y.toNat : Int))) = .ok (.string ⟨(t.data.toList.set m y).toArray⟩) (w6.setCell ⟨gb, m, none⟩ (.int .u8 (y.toNat : Int))) := by
  have hl : (t.data.toList.set m y).length = t.size := by rw [List.length_set, ba_size]
  have := run_convert_bytes_back (P := Tryd.prog) (w6.setCell ⟨gb, m, none⟩ (.int .u8 (y.toNat : Int))) 22 9 5 ⟨gb, 0, none⟩ cap (t.data.toList.set m y) Tryd.underlying22 Tryd.underlying5 Tryd.underlying9 (fun j hj => by
    have hj' : j < t.data.toList.length := by rw [List.length_set] at hj; exact hj
    have ea : (⟨gb, 0, none⟩ : Addr).add j = ⟨gb, j, none⟩ := by simp only [Addr.add]; split <;> simp_all
    rw [ea]
    by_cases e : m = j
    · subst e
      rw [World.cell?_setCell_same _ _ _ (hc m hj')]
      simp
    · rw [World.cell?_setCell_other (h := ne_off e), hc j hj', List.getElem_set_ne e])
  rw [hl] at this
  exact this

set_option maxHeartbeats 1000000 in
theorem lawTurned (w : World) (v : Value) (n : Nat) (H : CodeAt w w.heap.size v n) (ht : TabS w) :
    Calls Tryd.prog 3 #[v] w fun e w' => e = .returned (.bool true) ∧ Below w.heap.size w w' := by
  obtain ⟨a, c, rfl⟩ := H.slice
  have BG := fun w => hide (big_any w a n c)
  by_cases hn : 1048576 < n
  · rw [decide_eq_true hn] at BG
    go_enter Tryd.func3, Tryd.ntmps3
    go_wp2_with (go_at_call 8; refine (unhide (BG _)).mono ?_; rintro e w1 ⟨rfl, rfl⟩)
    go_ret
    exact ⟨rfl, Below.refl _ _⟩
  · rw [decide_eq_false hn] at BG
    have HTab : Hid (∀ w', Below w.heap.size w w' → TabS w') := hide fun w' hb => ht.stays hb
    have DS := hide (drawSum w w.heap.size _ n (by omega) H (Nat.le_refl _))
    have DP := fun w' (hb : Below w.heap.size w w') => hide (places_any w' w.heap.size _ n (by omega) (H.below hb) hb.size)
    clear H ht hn
    go_enter Tryd.func3, Tryd.ntmps3
    go_wp2_with (first | (go_at_call 8; refine (unhide (BG _)).mono ?_; rintro e w1 ⟨rfl, rfl⟩) | (go_at_call 9; refine (unhide DS).mono ?_; rintro e w1 ⟨s, hs, rfl, hb1⟩) | (go_at_call 10; refine (unhide (DP _ hb1)).mono ?_; rintro e w2 ⟨pv, xs, rfl, hxl, hxs, hown, hb2⟩; obtain ⟨gp, pc, rfl, hgp, hpc⟩ := row12 hxl hown))
    have HB2 : Hid (Below w.heap.size w w2) := hb1.trans (hb2.mono hb1.size)
    have hx0 : xs[0] < 10000 := hxs _ (List.getElem_mem _)
    have hx1 : xs[1] < 10000 := hxs _ (List.getElem_mem _)
    have HP0 := hide (hpc 0 (by omega))
    have HP1 := hide (hpc 1 (by omega))
    clear hpc hown hxs hb1 hb2 BG DS DP
    generalize xs[0] = x0 at *
    generalize xs[1] = x1 at *
    have hv : sealV s = .tuple #[.string (s ++ four (sumT s)), .bool true] := if_neg (by omega)
    have S1 := hide (implSealed s w2 (by omega) (HTab.out _ HB2.out))
    have U1 := fun w' h => hide (implUns (s ++ four (sumT s)) w' (by rw [ByteArray.size_append]; show s.size + 4 ≤ 1048576; omega) h)
    rw [hv] at S1
    rw [unsV_sealed s (by omega)] at U1
    have UT := hide (fun t' i y hi ht' hy => unsV_turned s t' i y (by omega) hi ht' hy)
    have ht : (s ++ four (sumT s)).size = s.size + 4 := by rw [ByteArray.size_append]; rfl
    generalize s ++ four (sumT s) = t at *
    have hm : x0 % (s.size + 4) < s.size + 4 := Nat.mod_lt _ (by omega)
    have hm1 : (x0 : Int) % ((s.size : Int) + 4) = ((x0 % (s.size + 4) : Nat) : Int) := by simp
    generalize x0 % (s.size + 4) = m at *
    have hml : m < t.data.toList.length := by rw [ba_size, ht]; exact hm
    obtain ⟨z, ez⟩ : ∃ z, z = t.data.toList[m] := ⟨_, rfl⟩
    have hz8 : z.toNat < 256 := z.toNat_lt
    have HNE := hide (xor_other z (1 + x1 % 255) (by omega) (by omega))
    have hxo : bits .xor .u8 (z.toNat : Int) (1 + (x1 : Int) % 255) = ((UInt8.ofNat (z.toNat ^^^ (1 + x1 % 255))).toNat : Int) := by
      have h1 := u8_xor_nat z.toNat (1 + x1 % 255) hz8 (by omega)
      have h2 : (UInt8.ofNat (z.toNat ^^^ (1 + x1 % 255))).toNat = z.toNat ^^^ (1 + x1 % 255) := by
        rw [UInt8.toNat_ofNat']; exact Nat.mod_eq_of_lt (Nat.xor_lt_two_pow (n := 8) hz8 (by omega))
      rw [h2, ← h1]; simp
    generalize UInt8.ofNat (z.toNat ^^^ (1 + x1 % 255)) = y at *
    have hy8 : y.toNat < 256 := y.toNat_lt
    go_wp2_with (first | (go_at_call 11; refine (unhide S1).mono ?_; rintro e w3 ⟨rfl, hb3⟩; have HB3 : Hid (Below w.heap.size w w3) := HB2.out.trans (hb3.mono HB2.out.size)) | (go_at_call 12; refine (unhide (U1 _ (HTab.out _ HB3.out))).mono ?_; rintro e w4 ⟨rfl, hb4⟩; have HB4 : Hid (Below w.heap.size w w4) := HB3.out.trans (hb4.mono HB3.out.size); obtain ⟨bc, w6, hcv, hb6, hsz6, hbc, hbf⟩ := bytes_new w4 t; have hgp4 : gp < w4.heap.size := Nat.lt_of_lt_of_le hgp (Nat.le_trans hb3.size hb4.size); have hp0 : w6.cell? ⟨gp, 0, none⟩ = some (.int .i64 (x0 : Int)) := (((hb6.cell (p := ⟨gp, 0, none⟩) hgp4).trans (hb4.cell (p := ⟨gp, 0, none⟩) (Nat.lt_of_lt_of_le hgp hb3.size))).trans (hb3.cell (p := ⟨gp, 0, none⟩) hgp)).trans HP0.out))
    have hp1 : w6.cell? ⟨gp, 1, none⟩ = some (.int .i64 (x1 : Int)) := (((hb6.cell (p := ⟨gp, 1, none⟩) hgp4).trans (hb4.cell (p := ⟨gp, 1, none⟩) (Nat.lt_of_lt_of_le hgp hb3.size))).trans (hb3.cell (p := ⟨gp, 1, none⟩) hgp)).trans HP1.out
    have hbm : w6.cell? ⟨w4.heap.size, m, none⟩ = some (.int .u8 (z.toNat : Int)) := by rw [ez]; exact hbc m hml
    have hfm := hbf m (by omega)
    have HBC := hide hbc
    have HB6 : Hid (Below w.heap.size w w6) := HB4.out.trans (hb6.mono HB4.out.size)
    have hB4 : w.heap.size ≤ w4.heap.size := HB4.out.size
    have HEZ := hide ez
    clear ez
    clear hbc hbf hb3 hb4 hb6 HB3 hp0 HP0 HP1 S1 hv
    generalize w4.heap.size = gb at *
    have hmi : (m : Int) < (s.size : Int) + 4 := by omega
    have hmn : (0 : Int) ≤ (m : Int) := by omega
    have hwr : IntKind.i64.wrap (1 + (x1 : Int) % 255) = 1 + (x1 : Int) % 255 := IntWalk.i64_in _ (by omega)
    have hw8 : IntKind.u8.wrap (1 + (x1 : Int) % 255) = 1 + (x1 : Int) % 255 := by rw [IntKind.wrap_u8']; omega
    have htm : (x1 : Int).tmod 255 = (x1 : Int) % 255 := Int.tmod_eq_emod_of_nonneg (by omega)
    go_region
    have hcv2 : (convert 22 9 (.slice (some ⟨gb, 0, none⟩) (s.size + 4) bc)).run Tryd.prog (w6.setCell ⟨gb, m, none⟩ (.int .u8 (y.toNat : Int))).drew = .ok (.string ⟨(t.data.toList.set m y).toArray⟩) (w6.setCell ⟨gb, m, none⟩ (.int .u8 (y.toNat : Int))).drew := by
      have := turned_conv w6.drew gb m bc t y (by omega) HBC.out
      rw [ht] at this
      exact this
    have HU := hide (UT.out ⟨(t.data.toList.set m y).toArray⟩ m y (by omega) (by simp) (by
      rw [List.getElem?_eq_getElem hml, ← HEZ.out]
      exact fun e => HNE.out (Option.some.inj e)))
    have hz2 : (⟨(t.data.toList.set m y).toArray⟩ : ByteArray).size ≤ 1048576 := by
      show (List.toArray _).size ≤ 1048576
      rw [List.size_toArray, List.length_set, ba_size, ht]; omega
    have HB7 : Hid (Below w.heap.size w (w6.setCell ⟨gb, m, none⟩ (.int .u8 (y.toNat : Int))).drew) := (Below.setCell (p := ⟨gb, m, none⟩) HB6.out hB4 _).drew
    generalize (⟨(t.data.toList.set m y).toArray⟩ : ByteArray) = t2 at *
    generalize (w6.setCell ⟨gb, m, none⟩ (.int .u8 (y.toNat : Int))).drew = w7 at *
    have U2 := hide (implUns t2 w7 hz2 (HTab.out _ HB7.out))
    rw [HU.out] at U2
    have hsx := sum_x s
    have hlx := sumT_lt s
    have hz3 : (s ++ ⟨#[120]⟩ : ByteArray).size = s.size + 1 := by rw [ByteArray.size_append]; rfl
    have A1 := fun w' h => hide (implSumOf s w' (by omega) h)
    have A2 := fun w' h => hide (implSumMore (sumT s) ⟨#[120]⟩ w' hlx (by decide) h)
    have A3 := fun w' h => hide (implSumOf (s ++ ⟨#[120]⟩) w' (by omega) h)
    rw [show (⟨#[120]⟩ : ByteArray).data.toList = [120] from rfl, hsx] at A2
    clear hsx HBC UT HNE HEZ U1 hcv
    generalize sumT (s ++ ⟨#[120]⟩) = q at *
    generalize sumT s = r at *
    go_wp2_with (first | (go_at_call 12; refine (unhide U2).mono ?_; rintro e w8 ⟨rfl, hb8⟩; have HB8 : Hid (Below w.heap.size w w8) := HB7.out.trans (hb8.mono HB7.out.size)) | (go_at_call 14; refine (unhide (A1 _ (HTab.out _ HB8.out))).mono ?_; rintro e w9 ⟨rfl, rfl⟩) | (go_at_call 14; refine (unhide (A3 _ (HTab.out _ HB8.out))).mono ?_; rintro e w9 ⟨rfl, rfl⟩) | (go_at_call 13; refine (unhide (A2 _ (HTab.out _ HB8.out))).mono ?_; rintro e w9 ⟨rfl, rfl⟩))
    go_ret
    exact ⟨rfl, HB8.out⟩
end Go.Proofs.YtnidmllipiiakaaDoor
