/-
  Walks: the parts of a line, by the specification.
-/
import Derived.Test.YtmenkckdabfkcaaDoorAidRow
import Derived.Test.YtmenkckdabfkcaaDoorRows
import Derived.Lib.Fields
import Derived.WalkKit
namespace Go.Proofs.YtmenkckdabfkcaaDoor
open Go.RowKit

theorem Tryd.info9 : (Tryd.prog.info? 9).map (fun i => (i.zero, i.size, i.bytes)) = some (some (.string ByteArray.empty), 1, 16) := by kernel_rfl

/-- Every byte in 32 .. 126. -/
def plainL (l : List UInt8) : Bool := l.all fun b => decide (32 ≤ b.toNat) && decide (b.toNat ≤ 126)
theorem plainL_bad {l : List UInt8} {b : UInt8} (hb : b ∈ l) (h : b.toNat < 32 ∨ 126 < b.toNat) : plainL l = false := by
  rw [plainL, List.all_eq_false]
  refine ⟨b, hb, ?_⟩
  simp only [Bool.and_eq_true, decide_eq_true_eq]
  omega
theorem isSp_plain {b : UInt8} (h0 : 32 ≤ b.toNat) : Lib.isSp b = decide (b.toNat = 32) := by
  rw [Bool.eq_iff_iff]
  simp only [Lib.isSp, Bool.or_eq_true, beq_iff_eq, decide_eq_true_eq]
  constructor
  · rintro (((((h | h) | h) | h) | h) | h) <;> subst h <;> first | rfl | (exact absurd h0 (by decide))
  · intro h
    right
    exact UInt8.toNat_inj.1 h

/-- A part as a text. -/
def mkS (l : List UInt8) : ByteArray := ⟨l.toArray⟩
theorem extract_mk (s : ByteArray) (b k : Nat) : s.extract b k = mkS ((s.data.toList.drop b).take (k - b)) := by
  apply ByteArray.ext
  apply Array.toList_inj.1
  rw [ByteArray.data_extract]
  simp [mkS, Array.toList_extract, List.extract]

/-- What is there when k bytes have been gone through, the part that is being read beginning at b: 'done' so far. -/
def PSt (s : ByteArray) (k b : Nat) (done : List (List UInt8)) : Prop :=
  (k ≤ s.size ∧ b ≤ k ∧ done ++ Lib.fieldsGo ((s.data.toList.drop b).take (k - b)) (s.data.toList.drop k) = Lib.fields s.data.toList) ∨ (k = s.size + 1 ∧ done = Lib.fields s.data.toList)

theorem drop_byte (s : ByteArray) (k : Nat) (h : k < s.size) : s.data.toList.drop k = s[k] :: s.data.toList.drop (k + 1) := by
  rw [List.drop_eq_getElem_cons (by simpa using h)]; rfl
theorem cur_succ (s : ByteArray) (b k : Nat) (hb : b ≤ k) (h : k < s.size) : (s.data.toList.drop b).take (k + 1 - b) = (s.data.toList.drop b).take (k - b) ++ [s[k]] := by
  have hl : s.data.toList.length = s.size := by rw [Array.length_toList]; rfl
  have e : k + 1 - b = (k - b) + 1 := by omega
  have h1 : k - b < (s.data.toList.drop b).length := by simp [hl]; omega
  rw [e, List.take_succ_eq_append_getElem h1, List.getElem_drop]
  have : b + (k - b) = k := by omega
  simp only [this]
  rfl
theorem cur_empty (s : ByteArray) (b k : Nat) (hb : b ≤ k) (hk : k ≤ s.size) : ((s.data.toList.drop b).take (k - b)).isEmpty = decide (b = k) := by
  have hl : s.data.toList.length = s.size := by rw [Array.length_toList]; rfl
  have h1 : ((s.data.toList.drop b).take (k - b)).length = k - b := by simp [hl]; omega
  rw [Bool.eq_iff_iff, List.isEmpty_iff, ← List.length_eq_zero_iff, h1, decide_eq_true_eq]
  omega

theorem PSt.start (s : ByteArray) : PSt s 0 0 [] := .inl ⟨Nat.zero_le _, Nat.le_refl _, by simp [Lib.fields]⟩
theorem PSt.at {s : ByteArray} {k b : Nat} {done : List (List UInt8)} (h : PSt s k b done) (hk : k ≤ s.size) : b ≤ k ∧ done ++ Lib.fieldsGo ((s.data.toList.drop b).take (k - b)) (s.data.toList.drop k) = Lib.fields s.data.toList := by
  rcases h with h | h
  · exact h.2
  · omega
theorem PSt.more {s : ByteArray} {k b : Nat} {done : List (List UInt8)} (h : PSt s k b done) (hk : k < s.size) (h0 : 32 ≤ s[k].toNat) (h1 : s[k].toNat ≠ 32) : PSt s (k + 1) b done := by
  obtain ⟨hb, he⟩ := h.at (by omega)
  refine .inl ⟨hk, by omega, ?_⟩
  rw [← he, cur_succ s b k hb hk, drop_byte s k hk, Lib.fieldsGo, isSp_plain h0]
  simp [h1]
theorem PSt.blank_none {s : ByteArray} {k b : Nat} {done : List (List UInt8)} (h : PSt s k b done) (hk : k < s.size) (h1 : s[k].toNat = 32) (hbk : ¬ b < k) : PSt s (k + 1) (k + 1) done := by
  obtain ⟨hb, he⟩ := h.at (by omega)
  refine .inl ⟨hk, Nat.le_refl _, ?_⟩
  have hE := cur_empty s b k hb (by omega)
  have hbe : b = k := by omega
  rw [← he, drop_byte s k hk, Lib.fieldsGo, isSp_plain (by omega), hE]
  simp [h1, hbe]
theorem PSt.blank_some {s : ByteArray} {k b : Nat} {done : List (List UInt8)} (h : PSt s k b done) (hk : k < s.size) (h1 : s[k].toNat = 32) (hbk : b < k) : PSt s (k + 1) (k + 1) (done ++ [(s.data.toList.drop b).take (k - b)]) := by
  obtain ⟨hb, he⟩ := h.at (by omega)
  refine .inl ⟨hk, Nat.le_refl _, ?_⟩
  have hE := cur_empty s b k hb (by omega)
  have hne : ¬ b = k := by omega
  rw [← he, drop_byte s k hk, Lib.fieldsGo, isSp_plain (by omega), hE]
  simp [h1, hne]
theorem PSt.end_none {s : ByteArray} {b : Nat} {done : List (List UInt8)} (h : PSt s s.size b done) (hbk : ¬ b < s.size) : PSt s (s.size + 1) (s.size + 1) done := by
  obtain ⟨hb, he⟩ := h.at (by omega)
  have hE := cur_empty s b s.size hb (by omega)
  have hl : s.data.toList.length = s.size := by rw [Array.length_toList]; rfl
  have hbe : b = s.size := by omega
  refine .inr ⟨rfl, ?_⟩
  rw [← he, List.drop_eq_nil_of_le (by omega : s.data.toList.length ≤ s.size), Lib.fieldsGo, hE]
  simp [hbe]
theorem PSt.end_some {s : ByteArray} {b : Nat} {done : List (List UInt8)} (h : PSt s s.size b done) (hbk : b < s.size) : PSt s (s.size + 1) (s.size + 1) (done ++ [(s.data.toList.drop b).take (s.size - b)]) := by
  obtain ⟨hb, he⟩ := h.at (by omega)
  have hE := cur_empty s b s.size hb (by omega)
  have hl : s.data.toList.length = s.size := by rw [Array.length_toList]; rfl
  have hne : ¬ b = s.size := by omega
  refine .inr ⟨rfl, ?_⟩
  rw [← he, List.drop_eq_nil_of_le (by omega : s.data.toList.length ≤ s.size), Lib.fieldsGo, hE]
  simp [hne]

/-- The parts, and whether there are any to be had. -/
def partsR (s : ByteArray) : List ByteArray × Bool :=
  if s.size ≤ 600 ∧ plainL s.data.toList = true ∧ (Lib.fields s.data.toList).length ≤ 10 then ((Lib.fields s.data.toList).map mkS, true) else ([], false)
theorem partsR_yes {s : ByteArray} (h1 : s.size ≤ 600) (h2 : plainL s.data.toList = true) (h3 : (Lib.fields s.data.toList).length ≤ 10) : partsR s = ((Lib.fields s.data.toList).map mkS, true) := by
  rw [partsR, if_pos ⟨h1, h2, h3⟩]
theorem partsR_no {s : ByteArray} (h : 600 < s.size ∨ plainL s.data.toList = false ∨ 10 < (Lib.fields s.data.toList).length) : partsR s = ([], false) := by
  rw [partsR, if_neg]
  rintro ⟨h1, h2, h3⟩
  rcases h with h | h | h
  · omega
  · rw [h2] at h; cases h
  · omega
theorem partsR_len (s : ByteArray) : (partsR s).1.length ≤ 10 := by
  unfold partsR
  split
  · simp; omega
  · simp

/-- What is handed back. -/
def PartEnd (s : ByteArray) (w : World) (e : Ending) (w' : World) : Prop :=
  ∃ v, e = .returned (.tuple #[v, .bool (partsR s).2]) ∧ w'.ownsRow w.heap.size 9 1 v (partsR s).1.length ((partsR s).1.map S) ∧ Below w.heap.size w w'

theorem PartEnd.none {s : ByteArray} {w wr : World} (h : 600 < s.size ∨ plainL s.data.toList = false ∨ 10 < (Lib.fields s.data.toList).length) (hsz : w.heap.size ≤ wr.heap.size) (hb : Below w.heap.size w wr) :
    PartEnd s w (.returned (.tuple #[.slice (some ⟨wr.heap.size, 0, Option.none⟩) 0 0, .bool false])) (wr.alloc (.cells #[] 9)) := by
  refine ⟨.slice (some ⟨wr.heap.size, 0, Option.none⟩) 0 0, ?_, ?_, hb.alloc hsz _⟩
  · rw [partsR_no h]
  · rw [partsR_no h]
    exact ownsRow_empty wr _ 9 hsz

/-- What the loop keeps. -/
def PartRel (s : ByteArray) (w : World) (v bv iv : Value) (wr : World) : Prop :=
  ∃ (k b : Nat) (done : List (List UInt8)), k ≤ s.size + 1 ∧ b ≤ k ∧ iv = .int .i64 k ∧ bv = .int .i64 b ∧ done.length ≤ k ∧ Hid (PSt s k b done) ∧ Hid (∀ j, j < k → ∀ h : j < s.size, 32 ≤ s[j].toNat ∧ s[j].toNat ≤ 126) ∧
    wr.ownsRow w.heap.size 9 1 v done.length (done.map fun l => S (mkS l)) ∧ Below w.heap.size w wr

theorem index_str9 {P : Program} {t : TypeId} (ht : P.underlying t = some .string) (s : ByteArray) (k : Nat) (h : k < s.size) (w : World) :
    (Instr.index t (.string s) (.int .i64 (k : Int))).run P w = .ok (.int .u8 (s[k].toNat : Int)) w := by
  simp [go_sem, ht, h]
theorem slice_part {P : Program} {t : TypeId} (ht : P.underlying t = some .string) (s : ByteArray) (b k : Nat) (h1 : b ≤ k) (h2 : k ≤ s.size) (w : World) :
    (Instr.slice t (.string s) (some (.int .i64 (b : Int))) (some (.int .i64 (k : Int))) none).run P w = .ok (.string (mkS ((s.data.toList.drop b).take (k - b)))) w := by
  rw [run_slice_string (P := P) (w := w) t s .i64 .i64 b k ht (by omega) (by omega) (by omega), ← extract_mk]
  congr 2

set_option maxRecDepth 100000 in
set_option maxHeartbeats 2000000 in
theorem specPartsOf_yes (s : ByteArray) (w : World) (hs : s.size ≤ 600) : Calls Tryd.prog 7 #[.string s] w (PartEnd s w) := by
  have hd : decide ((600 : Int) < (s.size : Int)) = false := by simp; omega
  go_enter Tryd.func7, Tryd.ntmps7
  go_wp2
  go_loopw [4, 5, 6] (fun v bv iv wr => PartRel s w v bv iv wr) (fun _ _ i _ => s.size + 1 - (intOf i).toNat)
  case atStart => exact ⟨0, 0, [], by omega, by omega, rfl, rfl, by simp, PSt.start s, fun j hj => absurd hj (Nat.not_lt_zero j), ownsRow_empty _ _ _ (Nat.le_refl _), (Below.refl _ _).alloc (Nat.le_refl _) _⟩
  case round =>
    obtain ⟨k, b, done, hk, hbk, rfl, rfl, hdl, HP, HA, hown, hb⟩ := hrel
    have hsz := hb.size
    by_cases hlt : k < s.size
    · obtain ⟨c, hc⟩ : ∃ c : Nat, c = s[k].toNat := ⟨_, rfl⟩
      have hb8 : c < 256 := by rw [hc]; exact s[k].toNat_lt
      have hix : ∀ wx : World, (Instr.index 9 (.string s) (.int .i64 (k : Int))).run Tryd.prog wx = .ok (.int .u8 (c : Int)) wx := fun wx => by
        rw [hc]; exact index_str9 Tryd.underlying9 s k hlt wx
      have HC := hide hc
      clear hc
      have hmem : s[k] ∈ s.data.toList := by
        have : s[k] = s.data.toList[k]'(by simpa using hlt) := rfl
        rw [this]; exact List.getElem_mem _
      by_cases h32 : c < 32
      · have HF := hide (plainL_bad hmem (.inl (by rw [← HC.out]; exact h32)))
        clear hmem
        have hd1 : decide ((c : Int) < 32) = true := by simp; omega
        go_wp2
        go_ret2
        exact PartEnd.none (.inr (.inl HF.out)) hsz hb
      · by_cases h126 : 126 < c
        · have HF := hide (plainL_bad hmem (.inr (by rw [← HC.out]; exact h126)))
          clear hmem
          have hd1 : decide ((c : Int) < 32) = false := by simp; omega
          have hd2 : decide ((126 : Int) < (c : Int)) = true := by simp; omega
          go_wp2
          go_ret2
          exact PartEnd.none (.inr (.inl HF.out)) hsz hb
        · have hd1 : decide ((c : Int) < 32) = false := by simp; omega
          have hd2 : decide ((126 : Int) < (c : Int)) = false := by simp; omega
          have HA2 : Hid (∀ j, j < k + 1 → ∀ h : j < s.size, 32 ≤ s[j].toNat ∧ s[j].toNat ≤ 126) := fun j hj h => by
            rcases Nat.lt_succ_iff_lt_or_eq.1 hj with hj | hj
            · exact HA.out j hj h
            · subst hj; rw [← HC.out]; omega
          clear hmem
          by_cases hc32 : c = 32
          · have hd3 : ((c : Int) != 32) = false := by simp; omega
            have HP2 := HP
            by_cases hbl : b < k
            · have HN := hide (HP.out.blank_some hlt (by rw [← HC.out]; exact hc32) hbl)
              have hsl := slice_part (P := Tryd.prog) Tryd.underlying9 s b k hbk (by omega)
              clear hc32
              go_wp2_with (at_builtin; refine wpList_app1 rfl (.tmp 48) (.tmp 53) 24 rfl w.heap.size 9 (.string ByteArray.empty) 16 Tryd.underlying24 Tryd.info9 rfl _ done.length _ _ rfl hown rfl rfl (by unfold maxLen; omega) (by omega) (by omega) ?_)
              intro v' w1 hown' hb1
              have HO := hide hown'
              have HB := hide hb1
              clear hown hown' hb1 hsl
              go_wp2
              go_roundw
              case rel => exact ⟨k + 1, k + 1, done ++ [(s.data.toList.drop b).take (k - b)], by omega, by omega, by go_num, by go_num, by simp; omega, HN, HA2, by have := HO.out; simpa using this, hb.trans HB.out⟩
              case measure => simp [intOf]; omega
            · have HN := hide (HP.out.blank_none hlt (by rw [← HC.out]; exact hc32) hbl)
              clear hc32
              go_wp2
              go_roundw
              case rel => exact ⟨k + 1, k + 1, done, by omega, by omega, by go_num, by go_num, by omega, HN, HA2, hown, hb⟩
              case measure => simp [intOf]; omega
          · have hd3 : ((c : Int) != 32) = true := by simp; omega
            have HN := hide (HP.out.more hlt (by rw [← HC.out]; omega) (by rw [← HC.out]; exact hc32))
            clear hc32
            go_wp2
            go_roundw
            case rel => exact ⟨k + 1, b, done, by omega, by omega, by go_num, rfl, by omega, HN, HA2, hown, hb⟩
            case measure => simp [intOf]; omega
    · have hd0 : decide ((k : Int) < (s.size : Int)) = false := by simp; omega
      by_cases hks : k ≤ s.size
      · have hke : k = s.size := by omega
        have HA2 : Hid (∀ j, j < k + 1 → ∀ h : j < s.size, 32 ≤ s[j].toNat ∧ s[j].toNat ≤ 126) := fun j hj h => HA.out j (by omega) h
        by_cases hbl : b < k
        · have HN : Hid (PSt s (k + 1) (k + 1) (done ++ [(s.data.toList.drop b).take (k - b)])) := by
            subst hke
            exact HP.out.end_some hbl
          have hsl := slice_part (P := Tryd.prog) Tryd.underlying9 s b k hbk hks
          clear hke
          go_wp2_with (at_builtin; refine wpList_app1 rfl (.tmp 48) (.tmp 53) 24 rfl w.heap.size 9 (.string ByteArray.empty) 16 Tryd.underlying24 Tryd.info9 rfl _ done.length _ _ rfl hown rfl rfl (by unfold maxLen; omega) (by omega) (by omega) ?_)
          intro v' w1 hown' hb1
          have HO := hide hown'
          have HB := hide hb1
          clear hown hown' hb1 hsl
          go_wp2
          go_roundw
          case rel => exact ⟨k + 1, k + 1, done ++ [(s.data.toList.drop b).take (k - b)], by omega, by omega, by go_num, by go_num, by simp; omega, HN, HA2, by have := HO.out; simpa using this, hb.trans HB.out⟩
          case measure => simp [intOf]; omega
        · have HN : Hid (PSt s (k + 1) (k + 1) done) := by
            subst hke
            exact HP.out.end_none hbl
          clear hke
          go_wp2
          go_roundw
          case rel => exact ⟨k + 1, k + 1, done, by omega, by omega, by go_num, by go_num, by omega, HN, HA2, hown, hb⟩
          case measure => simp [intOf]; omega
      · have HD : Hid (done = Lib.fields s.data.toList) := by
          rcases HP.out with h | h
          · omega
          · exact h.2
        have HPl : Hid (plainL s.data.toList = true) := by
          show _ = _
          rw [plainL, List.all_eq_true]
          intro x hx
          obtain ⟨j, hj, rfl⟩ := List.getElem_of_mem hx
          have hl : s.data.toList.length = s.size := by rw [Array.length_toList]; rfl
          have := HA.out j (by omega) (by omega)
          have e : s.data.toList[j] = s[j]'(by omega) := rfl
          rw [e]
          simp only [Bool.and_eq_true, decide_eq_true_eq]
          exact this
        obtain ⟨aa, ca, ev⟩ : ∃ aa ca, u4 = .slice aa done.length ca := by
          rcases hown.2 with ⟨h, h'⟩ | ⟨g, cap, cur, h, _⟩
          · exact ⟨none, 0, by rw [h, h']⟩
          · exact ⟨_, _, h⟩
        subst ev
        by_cases h10 : 10 < done.length
        · go_wp2
          go_ret2
          exact PartEnd.none (.inr (.inr (by rw [← HD.out]; exact h10))) hsz hb
        · have HR := hide (partsR_yes hs HPl.out (by rw [← HD.out]; omega))
          go_wp2
          go_ret2
          refine ⟨.slice aa done.length ca, by rw [HR.out]; rfl, ?_, hb⟩
          rw [HR.out, ← HD.out]
          show wr.ownsRow _ _ _ _ (List.map mkS done).length ((done.map mkS).map S)
          rw [List.length_map, List.map_map]
          exact hown
theorem specPartsOf_no (s : ByteArray) (w : World) (hs : 600 < s.size) (_h : s.size ≤ 1048576) : Calls Tryd.prog 7 #[.string s] w (PartEnd s w) := by
  go_enter Tryd.func7, Tryd.ntmps7
  go_wp2
  go_ret2
  exact PartEnd.none (.inl hs) (Nat.le_refl _) (Below.refl _ _)
end Go.Proofs.YtmenkckdabfkcaaDoor
