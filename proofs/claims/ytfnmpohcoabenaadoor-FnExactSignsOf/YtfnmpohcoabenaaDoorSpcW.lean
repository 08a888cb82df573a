/-
  Walks: the signs of a text, by the specification.
-/
import Derived.Test.YtfnmpohcoabenaaDoorOneZ
import Derived.Test.YtfnmpohcoabenaaDoorSigW
namespace Go.Proofs.YtfnmpohcoabenaaDoor
open Go.RowKit

/-- What the loop keeps. -/
def SpcRel (s : ByteArray) (w wr : World) : Prop :=
  ∃ (pos : Nat) (acc : List Sg) (v : Value), pos ≤ s.size ∧ acc.length ≤ 500 ∧ Hid (scan s pos acc = scan s 0 []) ∧ ScAt wr (w.heap.size + 1) s pos v ∧ Hid (wr.ownsRow (w.heap.size + 1 + 1) 36 4 v acc.length (sgCells acc)) ∧
    Hid (wr.ownsRow w.heap.size 36 4 (.slice (some ⟨w.heap.size, 0, none⟩) 0 0) 0 []) ∧ Below w.heap.size w wr

theorem boxed (w : World) (s : ByteArray) (e : TypeId) : ScAt (w.alloc (.cells #[.string s, .int .i64 0, .slice none 0 0] e)) w.heap.size s 0 (.slice none 0 0) := by
  refine ⟨?_, ?_, ?_, ?_, ?_⟩
  · simp
  · simp
  · simp
  · exact Lib.frozen_of_heap (heap_alloc_new w _) 1
  · exact Lib.frozen_of_heap (heap_alloc_new w _) 2

theorem sgCells_one (xs : List Sg) : ∀ u ∈ sgCells xs, u.oneCell' = true := by
  intro u hu
  obtain ⟨x, _, hx⟩ := List.mem_flatMap.1 hu
  simp [Sg.cells] at hx
  rcases hx with rfl | rfl | rfl | rfl <;> rfl

theorem SpcRel.only {s : ByteArray} {w wr w2 : World} {pos' : Nat} {acc : List Sg} {v : Value} (HO : wr.ownsRow (w.heap.size + 1 + 1) 36 4 v acc.length (sgCells acc)) (HN : wr.ownsRow w.heap.size 36 4 (.slice (some ⟨w.heap.size, 0, none⟩) 0 0) 0 [])
    (hb : Below w.heap.size w wr) (ho : OnlyB (w.heap.size + 1) wr w2) (C : ScAt w2 (w.heap.size + 1) s pos' v) (hps : pos' ≤ s.size) (hal : acc.length ≤ 500) (hsc : scan s pos' acc = scan s 0 []) : SpcRel s w w2 :=
  ⟨pos', acc, v, hps, hal, hsc, C, ownsRow_farB ho.far HO (fun k hk => by have := (HO.lt k hk).1; omega), ownsRow_farB ho.far HN (fun k hk => by simp [Value.ownBlock] at hk; omega), hb.trans (ho.bel.mono (Nat.le_succ _))⟩

theorem ScAt.pos {w : World} {g : Nat} {s : ByteArray} {pos : Nat} {v : Value} (C : ScAt w g s pos v) : (intOf ((w.cell? ⟨g, 1, none⟩).getD undef)).toNat = pos := by
  rw [C.c1]; simp [intOf]

/-- What the loop over a remark keeps. -/
def RemRel (g : Nat) (s : ByteArray) (pos : Nat) (v : Value) (wr w2 : World) : Prop :=
  ∃ k : Nat, pos + k ≤ s.size ∧ Hid (∀ j, pos ≤ j → j < pos + k → ∀ h : j < s.size, lineQ s[j].toNat = true) ∧ ScAt w2 g s (pos + k) v ∧ Hid (OnlyB g wr w2)

theorem hash_kind {s : ByteArray} {pos : Nat} (h : pos < s.size) (hc : s[pos].toNat = 35) : kindB (rest s pos) = 0 ∧ sizeOfB (rest s pos) = headN lineQ (rest s pos) := by
  have h1 : blankQ s[pos].toNat = false := by rw [hc]; rfl
  constructor
  · rw [rest_cons s pos h, kindB, h1, if_neg (by simp), if_pos hc]
  · conv => lhs; rw [rest_cons s pos h, sizeOfB, h1, if_neg (by simp), if_pos hc, ← rest_cons s pos h]
theorem other_kind {s : ByteArray} {pos : Nat} (h : pos < s.size) (h1 : blankQ s[pos].toNat = false) (h2 : s[pos].toNat ≠ 35) : kindB (rest s pos) ≠ 0 := by
  rw [rest_cons s pos h, kindB, h1, if_neg (by simp), if_neg h2]
  repeat' split
  all_goals decide

set_option maxRecDepth 100000 in
set_option maxHeartbeats 4000000 in
theorem specSignsOf_in (s : ByteArray) (w : World) (hs : s.size ≤ 1500) : Calls Tryd.prog 4 #[.string s] w (SignEnd s w) := by
  have hd : decide ((1500 : Int) < (s.size : Int)) = false := by simp; omega
  have HSR : Hid (signsR s = scan s 0 []) := by show _ = _; rw [signsR, if_neg (by omega)]
  go_enter Tryd.func4, Tryd.ntmps4
  go_wp2
  go_loopw [6] (fun _ wr => SpcRel s w wr) (fun _ wr => s.size - (intOf ((wr.cell? ⟨w.heap.size + 1, 1, none⟩).getD undef)).toNat)
  case atStart =>
    have hsz : (w.alloc (.cells #[] 36)).heap.size = w.heap.size + 1 := by simp
    have hC := boxed (w.alloc (.cells #[] 36)) s 30
    rw [hsz] at hC
    refine ⟨0, [], .slice none 0 0, Nat.zero_le _, by simp, rfl, hC, World.ownsRow_nil _ _ _ _, (ownsRow_none w _ _ _ (Nat.le_refl _)).alloc _, ((Below.refl _ _).alloc (Nat.le_refl _) _).alloc (by simp) _⟩
  case round =>
    obtain ⟨pos, acc, v, hps, hal, HSC, hC, HO, HN, hb⟩ := hrel
    have HC := hide hC
    have HB := hide hb
    obtain ⟨c0, c1, c2, f1, f2⟩ := hC
    clear hb
    by_cases hp : pos < s.size
    · have hi0 : (0 : Int) ≤ (pos : Int) := by omega
      have hi1 : (pos : Int) < (s.size : Int) := by omega
      obtain ⟨c, hc⟩ : ∃ c : Nat, c = s[pos].toNat := ⟨_, rfl⟩
      have hb8 : c < 256 := by rw [hc]; exact s[pos].toNat_lt
      have hix : ∀ wx : World, (Instr.index 9 (.string s) (.int .i64 (pos : Int))).run Tryd.prog wx = .ok (.int .u8 (c : Int)) wx := fun wx => by
        rw [hc]; exact index_str9 Tryd.underlying9 s pos hp wx
      cases hbl : blankQ c with
      | true =>
        have HS2 : Hid (scan s (pos + 1) acc = scan s 0 []) := by show _ = _; rw [← scan_blank hp (by rw [← hc]; exact hbl)]; exact HSC.out
        have hblk : c = 32 ∨ c = 10 := by simpa [blankQ] using hbl
        have HC2 : Hid (ScAt (wr.setCell ⟨w.heap.size + 1, 1, none⟩ (.int .i64 ((pos : Int) + 1))) (w.heap.size + 1) s (pos + 1) v) := HC.out.setPos (pos + 1)
        have HR := hide (SpcRel.only HO.out HN.out HB.out (OnlyB.setCell _ _) HC2.out (by omega) hal HS2.out)
        clear hc hbl
        rcases hblk with rfl | rfl
        · go_wp2
          go_roundw
          case rel => exact HR.out
          case measure => rw [HC2.out.pos, HC.out.pos]; omega
        · go_wp2
          go_roundw
          case rel => exact HR.out
          case measure => rw [HC2.out.pos, HC.out.pos]; omega
      | false =>
        have hb1 : ((c : Int) == 32) = false := by simp [blankQ] at hbl; simp; omega
        have hb2 : ((c : Int) == 10) = false := by simp [blankQ] at hbl; simp; omega
        by_cases h35 : c = 35
        · obtain ⟨hk, hn⟩ := hash_kind hp (hc.symm.trans h35)
          have HS2 := hide ((scan_skip hp hk acc).symm.trans HSC.out)
          rw [hn] at HS2
          subst h35
          have hsz := headN_le lineQ (rest s pos)
          rw [rest_len] at hsz
          have hpos1 : 1 ≤ headN lineQ (rest s pos) := by rw [← hn]; exact sizeOfB_pos _
          clear hbl hb8 hk hn hb1 hb2 hc
          go_wp2
          go_hide hQ
          go_loopw [61] (fun _ w2 => RemRel (w.heap.size + 1) s pos v wr w2) (fun _ w2 => s.size - (intOf ((w2.cell? ⟨w.heap.size + 1, 1, none⟩).getD undef)).toNat)
          case atStart => exact ⟨0, by omega, fun j h1 h2 => by omega, HC.out, OnlyB.refl _ _⟩
          case round =>
            obtain ⟨k, hk, HA, hC2, HO2⟩ := hrel
            have HC2 := hide hC2
            obtain ⟨d0, d1, d2, g1, g2⟩ := hC2
            by_cases hlt : pos + k < s.size
            · obtain ⟨c, hc⟩ : ∃ c : Nat, c = s[pos + k].toNat := ⟨_, rfl⟩
              have hix2 : ∀ wx : World, (Instr.index 9 (.string s) (.int .i64 ((pos + k : Nat) : Int))).run Tryd.prog wx = .ok (.int .u8 (c : Int)) wx := fun wx => by
                rw [hc]; exact index_str9 Tryd.underlying9 s (pos + k) hlt wx
              have hb8 : c < 256 := by rw [hc]; exact s[pos + k].toNat_lt
              have HV : Hid (∃ h : pos + k < s.size, s[pos + k].toNat = c) := ⟨hlt, hc.symm⟩
              obtain ⟨p, hpk⟩ : ∃ p, pos + k = p := ⟨_, rfl⟩
              rw [hpk] at hix2 d1
              have HK := hide hpk
              have hp1 : p < s.size := by omega
              clear hc hpk hlt
              by_cases h10 : c = 10
              · have HF : Hid (headN lineQ (rest s pos) = k) := headN_rest hk HA.out (.inr ⟨HV.out.1, by rw [HV.out.2, h10]; rfl⟩)
                subst h10
                have HR : Hid (SpcRel s w wr) := by
                  refine SpcRel.only HO.out HN.out HB.out HO2.out HC2.out hk hal ?_
                  rw [← HF.out]; exact HS2.out
                have hk1 : 1 ≤ k := by rw [← HF.out]; exact hpos1
                go_wp2
                subst hQ
                go_wp2
                go_roundw
                case rel => exact HR.out
                case measure => rw [HC2.out.pos, HC.out.pos]; omega
              · have h10' : ((c : Int) == 10) = false := by simp; omega
                have HA2 : Hid (∀ j, pos ≤ j → j < pos + (k + 1) → ∀ h : j < s.size, lineQ s[j].toNat = true) := fun j h3 h4 h => by
                  by_cases h5 : j < pos + k
                  · exact HA.out j h3 h5 h
                  · have e : j = pos + k := by omega
                    subst e
                    rw [HV.out.2, lineQ]; simp; exact h10
                have HC3 : Hid (ScAt (wr.setCell ⟨w.heap.size + 1, 1, none⟩ (.int .i64 ((p : Int) + 1))) (w.heap.size + 1) s (pos + (k + 1)) v) := by
                  have e : (p : Int) + 1 = ((pos + (k + 1) : Nat) : Int) := by have := HK.out; omega
                  rw [e]; exact HC2.out.setPos _
                have hp2 : pos + (k + 1) ≤ s.size := by have := HK.out; omega
                go_wp2
                go_roundw
                case rel => exact ⟨k + 1, hp2, HA2, HC3.out, HO2.out.trans (OnlyB.setCell _ _)⟩
                case measure => rw [HC3.out.pos, HC2.out.pos]; omega
            · have HF : Hid (headN lineQ (rest s pos) = k) := headN_rest hk HA.out (.inl (by omega))
              have HR : Hid (SpcRel s w wr) := by
                refine SpcRel.only HO.out HN.out HB.out HO2.out HC2.out hk hal ?_
                rw [← HF.out]; exact HS2.out
              have hk1 : 1 ≤ k := by rw [← HF.out]; exact hpos1
              have hlt2 : ¬ (((pos + k : Nat) : Int) < (s.size : Int)) := by omega
              obtain ⟨p, hpk⟩ : ∃ p, pos + k = p := ⟨_, rfl⟩
              rw [hpk] at d1 hlt2
              have HK := hide hpk
              clear hpk hlt
              go_wp2
              subst hQ
              go_wp2
              go_roundw
              case rel => exact HR.out
              case measure => rw [HC2.out.pos, HC.out.pos]; omega
        · have h35' : ((c : Int) == 35) = false := by simp; omega
          have hone := fun w' h1 h2 => hide (one_any (w.heap.size + 1) s pos v acc w' hs hp h1 h2 hal (by rw [← hc]; exact hbl) (by rw [← hc]; exact h35))
          have HOK := hide (other_kind hp (by rw [← hc]; exact hbl) (by rw [← hc]; exact h35))
          clear hc hbl h35 hb8
          go_wp2_with fail
          refine (unhide (hone _ HC.out HO.out)).mono ?_
          rintro e w2 ⟨hb2, ⟨rfl, hf⟩ | ⟨rfl, hf, ha, v', hC2, hO2⟩⟩
          · have HF : Hid (signsR s = ([], pos + 1)) := by show _ = _; rw [HSR.out, ← HSC.out, scan_stop hp HOK.out hf]
            have HE : Hid (SignEnd s w (.returned (.tuple #[.slice (some ⟨w.heap.size, 0, none⟩) 0 0, .int .i64 ((pos : Int) + 1)])) w2) := by
              refine ⟨.slice (some ⟨w.heap.size, 0, none⟩) 0 0, by rw [HF.out]; rfl, ?_, HB.out.trans (hb2.mono (Nat.le_succ _))⟩
              rw [HF.out]
              exact ownsRow_below HN.out hb2 (fun k hk => by simp [Value.ownBlock] at hk; omega)
            clear hb2 hf
            go_wp2
            go_ret2
            exact HE.out
          · have hsz := sizeOfB_le (rest s pos) (by rw [rest_cons s pos hp]; simp)
            rw [rest_len] at hsz
            have hsp := sizeOfB_pos (rest s pos)
            have HR : Hid (SpcRel s w w2) := ⟨pos + sizeOfB (rest s pos), acc ++ [sgOf s pos], v', by omega, by simp; omega, by show _ = _; rw [← scan_take hp HOK.out hf ha]; exact HSC.out, hC2, hO2, ownsRow_below HN.out hb2 (fun k hk => by simp [Value.ownBlock] at hk; omega), HB.out.trans (hb2.mono (Nat.le_succ _))⟩
            have HC2 := hide hC2
            clear hb2 hf hC2 hO2
            go_wp2
            go_roundw
            case rel => exact HR.out
            case measure => rw [HC2.out.pos, HC.out.pos]; omega
    · have HF : Hid (scan s 0 [] = (acc, 0)) := by show _ = _; rw [← HSC.out, scan_end hp]
      obtain ⟨i0, hi, hz0, hz1, hz2⟩ := info_parts infoSi3'
      have hbs := HB.out.size
      have hlt : ¬ ((pos : Int) < (s.size : Int)) := by omega
      rcases HO.out.2 with ⟨hv, h0⟩ | ⟨b, cap, cur, hv, hbb, hcur, hcap, _⟩
      · subst hv
        have hacc : acc = [] := List.length_eq_zero_iff.1 h0
        subst hacc
        have hap : ∀ ty, (Builtin.append_ #[22, 22] ty #[.slice (some ⟨w.heap.size, 0, none⟩) 0 0, .slice none 0 0]).run Tryd.prog wr = .ok (.slice (some ⟨w.heap.size, 0, none⟩) 0 0) wr := fun ty => run_append_owned_none (P := Tryd.prog) wr w.heap.size _ ty _ i0 4 Tryd.underlying22 hi _ 0 [] HN.out
        go_wp2
        go_ret2
        refine ⟨.slice (some ⟨w.heap.size, 0, none⟩) 0 0, by rw [HSR.out, HF.out]; rfl, ?_, HB.out⟩
        rw [HSR.out, HF.out]
        exact HN.out
      · subst hv
        have hcl : ∀ j u, (sgCells acc)[j]? = some u → wr.cell? ((⟨b, 0, none⟩ : Addr).add j) = some u := HO.out.cells rfl
        have HCL := hide hcl
        clear hcl
        go_wp2_with (at_builtin; refine wpList_append_own _ rfl _ _ 22 rfl w.heap.size 36 i0 _ 4 40 Tryd.underlying22 hi hz0 hz1 hz2 rfl (by decide) (.slice (some ⟨w.heap.size, 0, none⟩) 0 0) 0 [] rfl HN.out ⟨b, 0, none⟩ acc.length cap (sgCells acc) rfl (sgCells_len acc) HCL.out (sgCells_one acc) (by unfold maxLen; omega) (by omega) hbs ?_)
        intro v' w4 hown4 hgr4 _
        have HE : Hid (w4.ownsRow w.heap.size 36 4 v' acc.length (sgCells acc)) := hown4
        have HB4 : Hid (Below w.heap.size w w4) := HB.out.grown hgr4 hbs (fun k hk => by simp [Value.ownBlock] at hk; omega)
        clear hown4 hgr4
        go_wp2
        go_ret2
        refine ⟨v', by rw [HSR.out, HF.out]; rfl, ?_, HB4.out⟩
        rw [HSR.out, HF.out]
        exact HE.out

theorem specSignsOf_long (s : ByteArray) (w : World) (hs : 1500 < s.size) (_h : s.size ≤ 1048576) : Calls Tryd.prog 4 #[.string s] w (SignEnd s w) := by
  have HF : Hid (signsR s = ([], 1)) := by show _ = _; rw [signsR, if_pos hs]
  go_enter Tryd.func4, Tryd.ntmps4
  go_wp2
  go_ret2
  exact SignEnd.non HF.out (by simp) (Below.refl _ _)

theorem specSignsOf_any (s : ByteArray) (w : World) (hs : s.size ≤ 1048576) : Calls Tryd.prog 4 #[.string s] w (SignEnd s w) := by
  by_cases h : 1500 < s.size
  · exact specSignsOf_long s w h hs
  · exact specSignsOf_in s w (by omega)
end Go.Proofs.YtfnmpohcoabenaaDoor
