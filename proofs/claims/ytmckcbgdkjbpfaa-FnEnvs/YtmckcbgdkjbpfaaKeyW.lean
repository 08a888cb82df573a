/-
  Key words: by a row of texts, and by a map.
-/
import Derived.Test.YtmckcbgdkjbpfaaChecked
import Derived.Test.YtmckcbgdkjbpfaaAid
import Derived.Maps.OwnSet
import Derived.BigQuiet
import Derived.WalkSmall
import Derived.Lib.DecodeN
import Derived.Laws.RangeAny
namespace Go.Proofs.Ytmckcbgdkjbpfaa
open Go.RowKit Go.Maps
open Go.WideMaps (keyOf_string_mk)

/-- The key words. -/
def keyS : List ByteArray := [⟨#[109, 111, 110, 105, 116, 111, 114]⟩, ⟨#[118, 97, 114]⟩, ⟨#[113, 117, 101, 117, 101]⟩, ⟨#[101, 110, 116, 114, 121]⟩, ⟨#[112, 114, 111, 99, 101, 115, 115]⟩, ⟨#[117, 115, 101, 115]⟩, ⟨#[98, 101, 103, 105, 110]⟩, ⟨#[101, 110, 100]⟩, ⟨#[105, 102]⟩, ⟨#[116, 104, 101, 110]⟩, ⟨#[101, 108, 115, 101]⟩, ⟨#[119, 104, 105, 108, 101]⟩, ⟨#[100, 111]⟩, ⟨#[99, 97, 108, 108]⟩, ⟨#[116, 111]⟩, ⟨#[112, 114, 105, 110, 116]⟩, ⟨#[114, 101, 97, 100]⟩, ⟨#[100, 101, 108, 97, 121]⟩, ⟨#[99, 111, 110, 116, 105, 110, 117, 101]⟩, ⟨#[115, 107, 105, 112]⟩, ⟨#[97, 110, 100]⟩, ⟨#[111, 114]⟩, ⟨#[110, 111, 116]⟩]
def keyB (s : ByteArray) : Bool := keyS.any fun x => decide (x = s)

def keyLits : List Lit := keyS.map fun x => .string x.data.toList
/-- Some map that holds these keys, in a block of its own. -/
def MapIs (w0 w : World) (n : Nat) (ks : List Lit) : Prop := w.ownsMap Try.prog 9 (unitElem (H := Unit)) w0.heap.size n (setOf (.agg []) ks) ∧ Below w0.heap.size w0 w

theorem lawS : Keyed Try.prog 9 := string_keyed Try.underlying9
theorem zeroU (w : World) : (zeroValue 76).run Try.prog w = .ok (.agg #[]) w := by kernel_rfl

theorem MapIs.made (w : World) : MapIs w (w.alloc (.map #[] 0)) 0 [] := ⟨World.ownsMap_made _ _ _ _, (Below.refl _ _).alloc (Nat.le_refl _) _⟩

theorem step_insert {w0 w : World} {ops : Array Oper} {rest : List Oper} {o : Oper} {a : Act} {Q : Exit → Act → World → Prop}
    (hg : o.guard = none) (m x v : Operand) (hop : o.op = Op.insert 61 m x v) (n : Nat) (ks : List Lit)
    (hm : a.eval m = .map (some w0.heap.size)) (hown : MapIs w0 w n ks) (hn : n < 1000) (s : ByteArray) (hs : s.size ≤ 1000) (hx : a.eval x = .string s) (hv : a.eval v = .agg #[])
    (hK : ∀ w', MapIs w0 w' (n + 1) (ks ++ [.string s.data.toList]) → wpList Try.prog ops Q rest (a.put o.dst undef) w') :
    wpList Try.prog ops Q (o :: rest) a w := by
  refine wpList_plain hg fun K' hK' => ?_
  obtain ⟨w', hrun, r1, r2⟩ := hown.1.update lawS Try.underlying61 (by unfold maxLen; omega) (keyOf_string_mk (s := s) Try.underlying9 (by unfold maxLen; omega)) unitElem_mk
  unfold Oper.wp
  simp [execOp, hop, hm, hx, hv, hrun, Result.andThen]
  refine hK' _ _ (hK w' ⟨?_, hown.2.grown r2 hown.2.size (fun j hj => by cases hj; exact Nat.le_refl _)⟩)
  rw [setOf_snoc]
  exact r1

set_option maxRecDepth 100000 in
set_option maxHeartbeats 2000000 in
theorem keyWords_any (w : World) : Calls Try.prog 67 #[] w fun e w' => e = .returned (.map (some w.heap.size)) ∧ MapIs w w' 23 keyLits := by
  have hmm := @run_makeMap Try.prog
  have h0 := MapIs.made w
  go_enter Try.func67, Try.ntmps67
  go_wp2_with (refine step_insert (w0 := w) rfl _ _ _ rfl _ _ rfl (by assumption) (by decide) _ (by decide) rfl rfl ?_; clear h0; intro w1 h0)
  go_ret
  exact ⟨rfl, h0⟩

theorem keyLits_key : ∀ x ∈ keyLits, WideAt.IsKeyLit x := by
  intro x hx
  obtain ⟨y, _, rfl⟩ := List.mem_map.1 hx
  trivial

theorem keyHas (s : ByteArray) : Maps.has (setOf (H := Unit) (.agg []) keyLits) (.string s.data.toList) = keyB s := by
  rw [has_setOf _ _ _ keyLits_key, keyLits, List.any_map, keyB]
  congr 1
  funext x
  show Lit.sameKey (.string x.data.toList) (.string s.data.toList) = _
  have e : x = s ↔ x.data = s.data := ⟨fun h => by rw [h], fun h => ByteArray.ext h⟩
  by_cases h : x = s
  · simp [Lit.sameKey, h]
  · have h' : ¬ x.data = s.data := fun q => h (e.2 q)
    simp [Lit.sameKey, h, h']

set_option maxRecDepth 100000 in
set_option maxHeartbeats 2000000 in
theorem implKeyWord_any (s : ByteArray) (w : World) (hs : s.size ≤ 1048576) : Calls Try.prog 65 #[.string s] w fun e w' => e = .returned (.bool (keyB s)) ∧ Below w.heap.size w w' := by
  have HS := hide (keyHas s)
  go_enter Try.func65, Try.ntmps65
  go_wp2_with (first
    | (go_at_call 67; refine (keyWords_any _).mono ?_; rintro e w1 ⟨rfl, h0⟩; have HB := hide h0.2)
    | (at_lookup; refine wpList_lookup_own_unit _ rfl _ _ 61 rfl 9 76 lawS Try.underlying61 (zeroU _) w.heap.size 23 _ rfl h0.1 _ _ rfl (keyOf_string_mk Try.underlying9 (by unfold maxLen; omega)) ?_; rw [HS.out]))
  go_ret
  exact ⟨rfl, HB.out.alloc HB.out.size _⟩

abbrev keyRow (w : World) : World := w.alloc (.cells (keyS.map Value.string).toArray 9)

set_option maxRecDepth 100000 in
theorem l04Keys_any (w : World) : Calls Try.prog 68 #[] w fun e w' => e = .returned (.slice (some ⟨w.heap.size, 0, none⟩) 23 23) ∧ w' = keyRow w := by
  go_enter Try.func68, Try.ntmps68
  go_wp2
  go_ret
  exact ⟨rfl, rfl⟩

theorem keyRow_cell (w : World) (k : Nat) (h : k < 23) : (keyRow w).cell? ⟨w.heap.size, k, none⟩ = some (.string (keyS.getD k ByteArray.empty)) := by
  have := (World.ownsRow_lit (base := w.heap.size) (e := 9) (size := 1) w (keyS.map Value.string).toArray 23 (Nat.le_refl _) (by unfold maxLen; omega) (by simp [keyS])).cellAt k h
  rw [this, List.getD_eq_getElem?_getD]
  simp [List.getElem?_eq_getElem (show k < keyS.length from h)]

theorem keyB_yes {s : ByteArray} {k : Nat} (h : k < 23) (e : keyS.getD k ByteArray.empty = s) : keyB s = true := by
  rw [keyB, List.any_eq_true]
  refine ⟨keyS.getD k ByteArray.empty, ?_, by rw [e]; exact decide_eq_true rfl⟩
  rw [List.getD_eq_getElem?_getD, List.getElem?_eq_getElem (show k < keyS.length from h)]
  exact List.getElem_mem _
theorem keyB_no {s : ByteArray} (h : ∀ k, k < 23 → keyS.getD k ByteArray.empty ≠ s) : keyB s = false := by
  rw [keyB, List.any_eq_false]
  intro x hx
  obtain ⟨j, hj, rfl⟩ := List.getElem_of_mem hx
  have := h j hj
  rw [List.getD_eq_getElem?_getD, List.getElem?_eq_getElem hj] at this
  simpa using this

set_option maxRecDepth 100000 in
set_option maxHeartbeats 2000000 in
theorem specKeyWord_any (s : ByteArray) (w : World) (hs : s.size ≤ 1048576) : Calls Try.prog 66 #[.string s] w fun e w' => e = .returned (.bool (keyB s)) ∧ Below w.heap.size w w' := by
  go_enter Try.func66, Try.ntmps66
  go_wp2_with (go_at_call 68; refine (l04Keys_any _).mono ?_; rintro e w1 ⟨rfl, hw1⟩; have HW := hide hw1; clear hw1)
  have HC : Hid (∀ k, k < 23 → w1.cell? ⟨w.heap.size, k, none⟩ = some (.string (keyS.getD k ByteArray.empty))) := by
    rw [HW.out]; exact keyRow_cell w
  have HB : Hid (Below w.heap.size w w1) := by
    rw [HW.out]; exact (Below.refl _ _).alloc (Nat.le_refl _) _
  clear HW
  go_loopw [4] (fun iv wr => ∃ k : Nat, k ≤ 23 ∧ iv = .int .i64 k ∧ wr = w1 ∧ Hid (∀ j, j < k → keyS.getD j ByteArray.empty ≠ s)) (fun iv _ => 23 - (intOf iv).toNat)
  case atStart => exact ⟨0, by omega, rfl, rfl, fun j hj => absurd hj (Nat.not_lt_zero j)⟩
  case round =>
    obtain ⟨k, hk, rfl, rfl, HN⟩ := hrel
    by_cases hlt : k < 23
    · have hc := HC.out k hlt
      have hi0 : (0 : Int) ≤ (k : Int) := by omega
      have hi1 : (k : Int) < 23 := by omega
      obtain ⟨x, ex⟩ : ∃ x, x = keyS.getD k ByteArray.empty := ⟨_, rfl⟩
      rw [← ex] at hc
      have EX := hide ex
      clear ex
      by_cases hx : x = s
      · have HF := hide (keyB_yes hlt (EX.out.symm.trans hx))
        subst hx
        go_wp2
        go_ret
        exact ⟨by rw [HF.out]; rfl, HB.out⟩
      · have hx' : (x.toList == s.toList) = false := by rw [Bool.eq_false_iff]; exact fun h => hx (str_beq.1 h)
        have HN2 : Hid (∀ j, j < k + 1 → keyS.getD j ByteArray.empty ≠ s) := fun j hj => by
          rcases Nat.lt_succ_iff_lt_or_eq.1 hj with hj | hj
          · exact HN.out j hj
          · subst hj; rw [← EX.out]; exact hx
        go_wp2
        go_roundw
        case rel => exact ⟨k + 1, by omega, by go_num, trivial, HN2⟩
        case measure => simp [intOf]; omega
    · have HF := hide (keyB_no (s := s) (fun j hj => HN.out j (by omega)))
      go_wp2
      go_ret
      exact ⟨by rw [HF.out]; rfl, HB.out⟩

end Go.Proofs.Ytmckcbgdkjbpfaa

namespace Go.Proofs.Ytmckcbgdkjbpfaa
open Go.RowKit

theorem get_bang (s : ByteArray) (j : Nat) (h : j < s.size) : s.get! j = s[j] := by
  simp [ByteArray.get!, getElem!_pos, h]
  rfl

theorem decodeN_span (n b0 b1 b2 b3 : Nat) (hn : 0 < n) : (Lib.decodeN n b0 b1 b2 b3).2 ≤ n ∧ (1 < (Lib.decodeN n b0 b1 b2 b3).2 → 128 ≤ b1) ∧ (2 < (Lib.decodeN n b0 b1 b2 b3).2 → 128 ≤ b2) ∧ (3 < (Lib.decodeN n b0 b1 b2 b3).2 → 128 ≤ b3) ∧ (Lib.decodeN n b0 b1 b2 b3).2 ≤ 4 := by
  unfold Lib.decodeN
  repeat' split
  all_goals (simp only []; omega)

/-- What a rune takes lies in the text, and all of its bytes but the first are 128 or above. -/
theorem decode_span (s : ByteArray) (pos : Nat) (h : pos < s.size) : pos + (Utf8.decode s pos).2 ≤ s.size ∧ ∀ j, 0 < j → j < (Utf8.decode s pos).2 → ∀ hj : pos + j < s.size, 128 ≤ s[pos + j].toNat := by
  rw [Lib.decode_at]
  obtain ⟨h1, a1, a2, a3, h4⟩ := decodeN_span (s.size - pos) (s.get! pos).toNat (s.get! (pos + 1)).toNat (s.get! (pos + 2)).toNat (s.get! (pos + 3)).toNat (by omega)
  refine ⟨by omega, fun j h0 hj hl => ?_⟩
  have : j = 1 ∨ j = 2 ∨ j = 3 := by omega
  rcases this with rfl | rfl | rfl
  · rw [← get_bang]; exact a1 hj
  · rw [← get_bang]; exact a2 hj
  · rw [← get_bang]; exact a3 hj

/-- How many bytes at the beginning are of a kind. -/
def headN (q : Nat → Bool) (l : List UInt8) : Nat := (l.takeWhile fun b => q b.toNat).length

theorem headN_le (q : Nat → Bool) (l : List UInt8) : headN q l ≤ l.length := by
  unfold headN
  exact (List.takeWhile_prefix _).length_le

theorem headN_at (q : Nat → Bool) : ∀ (l : List UInt8) (k : Nat), (∀ j, j < k → ∃ b, l[j]? = some b ∧ q b.toNat = true) → (k = l.length ∨ ∃ b, l[k]? = some b ∧ q b.toNat = false) → headN q l = k
  | [], k, _, h => by
    rcases h with h | ⟨b, hb, _⟩
    · simp at h; subst h; rfl
    · simp at hb
  | x :: l, 0, _, h => by
    rcases h with h | ⟨b, hb, hq⟩
    · simp at h
    · simp at hb; subst hb
      simp [headN, hq]
  | x :: l, k + 1, hA, h => by
    obtain ⟨b, hb, hq⟩ := hA 0 (by omega)
    simp at hb; subst hb
    have := headN_at q l k (fun j hj => by simpa using hA (j + 1) (by omega)) (by
      rcases h with h | h
      · simp at h; exact .inl h
      · simpa using .inr h)
    simp [headN, hq] at this ⊢
    exact this

theorem headN_in (q : Nat → Bool) (s : ByteArray) (k : Nat) (hA : ∀ j, j < k → ∀ h : j < s.size, q s[j].toNat = true) (hk : k ≤ s.size) (h : k = s.size ∨ ∃ hk : k < s.size, q s[k].toNat = false) : headN q s.data.toList = k := by
  have hl : s.data.toList.length = s.size := by rw [Array.length_toList]; rfl
  have hg : ∀ j (hj : j < s.size), s.data.toList[j]? = some s[j] := fun j hj => by
    rw [List.getElem?_eq_getElem (by omega)]; rfl
  refine headN_at q _ k (fun j hj => ⟨_, hg j (by omega), hA j hj (by omega)⟩) ?_
  rcases h with h | ⟨hk, h⟩
  · exact .inl (by omega)
  · exact .inr ⟨_, hg k hk, h⟩

theorem index_str9 {P : Program} {t : TypeId} (ht : P.underlying t = some .string) (s : ByteArray) (k : Nat) (h : k < s.size) (w : World) :
    (Instr.index t (.string s) (.int .i64 (k : Int))).run P w = .ok (.int .u8 (s[k].toNat : Int)) w := by
  simp [go_sem, ht, h]

/-- The kinds. -/
def letterQ (r : Nat) : Bool := decide (97 ≤ r ∧ r ≤ 122)
def figureQ (r : Nat) : Bool := decide (48 ≤ r ∧ r ≤ 57)
def blankQ (r : Nat) : Bool := decide (r = 32 ∨ r = 10)
def lineQ (r : Nat) : Bool := decide (r ≠ 10)
end Go.Proofs.Ytmckcbgdkjbpfaa
