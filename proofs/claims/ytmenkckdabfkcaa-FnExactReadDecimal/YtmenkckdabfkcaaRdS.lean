/-
  Walks: decimal figures read, by the specification.
-/
import Derived.Test.YtmenkckdabfkcaaDecS
import Derived.Test.YtmenkckdabfkcaaFigW
namespace Go.Proofs.Ytmenkckdabfkcaa
open Go.RowKit

theorem dv10 {c d : Nat} (h : dv 10 c = some d) : c = 48 + d ∧ d < 10 := by
  have h1 := dv_some h
  have h2 := h1.2.2
  rw [figI_lo (by omega)] at h2
  omega
theorem dv10_of {c : Nat} (h0 : 48 ≤ c) (h1 : c ≤ 57) : dv 10 c = some (c - 48) := by
  unfold dv; rw [if_pos (by omega)]
theorem dv10_no {c : Nat} (h : c < 48 ∨ 57 < c) : dv 10 c = none := by
  unfold dv; rw [if_neg (by omega), if_neg (by omega)]
theorem nums10_bytes : ∀ (l : List UInt8) (ds : List Int), numsB 10 l = some ds → l.map (fun b => (b.toNat : Int)) = ds.map (48 + ·)
  | [], ds, h => by
    simp only [numsB, Option.some.injEq] at h
    subst h; rfl
  | b :: l, ds, h => by
    unfold numsB at h
    cases e1 : dv 10 b.toNat with
    | none => rw [e1] at h; cases h
    | some d =>
      cases e2 : numsB 10 l with
      | none => rw [e1, e2] at h; cases h
      | some ds' =>
        rw [e1, e2] at h
        have := Option.some.inj h
        subst this
        have hd := dv10 e1
        rw [List.map_cons, List.map_cons, nums10_bytes l ds' e2]
        congr 1
        omega
theorem str_of_bytes (s : ByteArray) : strOfNums (s.data.toList.map fun b => (b.toNat : Int)) = s := by
  apply ByteArray.ext
  apply Array.toList_inj.1
  rw [strOfNums_data, List.map_map]
  conv => rhs; rw [← List.map_id s.data.toList]
  apply List.map_congr_left
  intro b _
  simp
theorem bytes_in (l : List UInt8) : ∀ c ∈ l.map (fun b => (b.toNat : Int)), 0 ≤ c ∧ c < 256 := by
  intro c hc
  obtain ⟨b, _, rfl⟩ := List.mem_map.1 hc
  have := b.toNat_lt
  omega

/-- The number that a text's figures are, and whether there is one. -/
def rdOk (s : ByteArray) (ds : List Int) : Bool := decide (0 < s.size) && !(decide (1 < s.size) && decide (ds.head? = some 0)) && decide (val10 ds ≤ 1000000000)

/-- What is handed back. -/
def RdEnd (s : ByteArray) (w : World) (e : Ending) (w' : World) : Prop :=
  ((∃ ds, numsB 10 s.data.toList = some ds ∧ rdOk s ds = true ∧ e = .returned (.tuple #[.int .i64 (val10 ds), .bool true])) ∨
    ((numsB 10 s.data.toList = none ∨ ∃ ds, numsB 10 s.data.toList = some ds ∧ rdOk s ds = false) ∧ e = .returned (.tuple #[.int .i64 0, .bool false]))) ∧ Below w.heap.size w w'

theorem rd_len {s : ByteArray} {ds : List Int} (h : numsB 10 s.data.toList = some ds) : ds.length = s.size := by
  rw [numsB_length _ _ h, Array.length_toList]; rfl
theorem rd_eq {s : ByteArray} {ds : List Int} (h : numsB 10 s.data.toList = some ds) (hr : val10 ds ≤ 1000000000) : rdOk s ds = ((strOfNums (decI (val10 ds))).toList == s.toList) := by
  have hl := rd_len h
  have hb := nums10_bytes _ _ h
  have hin := numsB_in _ _ h
  have hs := str_of_bytes s
  rw [hb] at hs
  rw [Bool.eq_iff_iff, str_beq]
  constructor
  · intro ho
    simp only [rdOk, Bool.and_eq_true, decide_eq_true_eq, Bool.not_eq_true', Bool.and_eq_false_iff, decide_eq_false_iff_not] at ho
    obtain ⟨⟨h1, h2⟩, _⟩ := ho
    rw [decI_val (fun d hd => ⟨(hin d hd).1, by have := (hin d hd).2.2; omega⟩) (fun e => by rw [e] at hl; simp at hl; omega) ?_, hs]
    by_cases h0 : ds.head? = some 0
    · left
      rcases h2 with h2 | h2
      · match ds, hl, h0 with
        | [], hl, h0 => simp at h0
        | [d], _, h0 => simp at h0; rw [h0]
        | _ :: _ :: _, hl, _ => simp at hl; omega
      · exact absurd h0 h2
    · right
      intro r hr'
      rw [hr'] at h0
      exact h0 rfl
  · intro he
    have e : decI (val10 ds) = ds.map (48 + ·) := by
      refine strOfNums_inj _ _ (decI_byte _) ?_ (he.trans hs.symm)
      rw [← hb]
      exact bytes_in _
    simp only [rdOk, Bool.and_eq_true, decide_eq_true_eq, Bool.not_eq_true', Bool.and_eq_false_iff, decide_eq_false_iff_not]
    refine ⟨⟨?_, ?_⟩, hr⟩
    · rcases Nat.eq_zero_or_pos s.size with h0 | h0
      · have : ds = [] := List.length_eq_zero_iff.1 (by omega)
        rw [this] at e
        exact absurd e (decI_ne_nil _)
      · exact h0
    · by_cases h1 : 1 < s.size
      · right
        intro h0
        match ds, hl, h0, e with
        | [], hl, h0, _ => simp at h0
        | [d], hl, _, _ => simp at hl; omega
        | a :: b :: r, _, h0, e =>
          simp at h0
          rw [h0] at e
          exact decI_needless e
      · exact .inl h1

/-- What the loop keeps: the first figures are worth so much. -/
def RdRel (s : ByteArray) (nv iv : Value) : Prop :=
  ∃ (k : Nat) (ds : List Int) (n : Int), k ≤ s.size ∧ iv = .int .i64 k ∧ nv = .int .i64 n ∧ Hid (ds.length = k ∧ numsB 10 (s.data.toList.take k) = some ds ∧ n = val10 ds) ∧ 0 ≤ n ∧ n < 10000000000

theorem RdRel.bound {k : Nat} {ds : List Int} {l : List UInt8} (hk : ds.length = k) (h : numsB 10 l = some ds) (h10 : k ≤ 10) : 0 ≤ val10 ds ∧ val10 ds < 10000000000 := by
  have hin := numsB_in _ _ h
  have := val10_in k ds hk (fun d hd => ⟨(hin d hd).1, by have := (hin d hd).2.2; omega⟩)
  have h2 : (10 : Int) ^ k ≤ 10 ^ 10 := by
    have : (10 : Nat) ^ k ≤ 10 ^ 10 := Nat.pow_le_pow_right (by omega) h10
    exact_mod_cast this
  omega
theorem RdRel.less {k : Nat} {ds : List Int} {l : List UInt8} (hk : ds.length = k) (h : numsB 10 l = some ds) (h10 : k ≤ 9) : val10 ds < 1000000000 := by
  have hin := numsB_in _ _ h
  have := val10_in k ds hk (fun d hd => ⟨(hin d hd).1, by have := (hin d hd).2.2; omega⟩)
  have h2 : (10 : Int) ^ k ≤ 10 ^ 9 := by
    have : (10 : Nat) ^ k ≤ 10 ^ 9 := Nat.pow_le_pow_right (by omega) h10
    exact_mod_cast this
  omega

theorem specDecimal_any (n : Int) (w : World) (h0 : 0 ≤ n) (h1 : n ≤ 1000000000) : Calls Try.prog 30 #[.int .i64 n] w fun e w' => e = .returned (.string (strOfNums (decI n))) ∧ Below w.heap.size w w' := by
  rcases Int.eq_ofNat_of_zero_le h0 with ⟨k, rfl⟩
  rcases Nat.eq_zero_or_pos k with hk | hk
  · subst hk; exact specDecimal_zero w
  · rw [decI_pos (by omega)]
    exact specDecimal_pos k w hk (by omega)

set_option maxRecDepth 100000 in
set_option maxHeartbeats 1000000 in
theorem specReadDecimal_yes (s : ByteArray) (w : World) (hs : s.size ≤ 10) : Calls Try.prog 22 #[.string s] w (RdEnd s w) := by
  have hd : decide ((10 : Int) < (s.size : Int)) = false := by simp; omega
  go_enter Try.func22, Try.ntmps22
  go_wp2
  go_loop [4, 5] (fun nv iv => RdRel s nv iv) (fun _ i => s.size - (intOf i).toNat)
  case atStart => exact ⟨0, [], 0, by omega, rfl, rfl, ⟨rfl, rfl, rfl⟩, by omega, by omega⟩
  case round =>
    obtain ⟨k, ds, n, hk, rfl, rfl, HD, hn0, hn1⟩ := hrel
    by_cases hlt : k < s.size
    · obtain ⟨c, hc⟩ : ∃ c : Nat, c = s[k].toNat := ⟨_, rfl⟩
      have hb8 : c < 256 := by rw [hc]; exact s[k].toNat_lt
      have hix : ∀ wx : World, (Instr.index 9 (.string s) (.int .i64 (k : Int))).run Try.prog wx = .ok (.int .u8 (c : Int)) wx := fun wx => by
        rw [hc]; exact index_str Try.underlying9 s k hlt wx
      have HC := hide hc
      clear hc
      by_cases h48 : c < 48
      · have HF := hide (numsB_bad (base := 10) s.data.toList s[k] (mem_at s k hlt) (by rw [← HC.out]; exact dv10_no (.inl h48)))
        go_wp2
        go_ret2
        exact ⟨.inr ⟨.inl HF.out, rfl⟩, Below.refl _ _⟩
      · by_cases h57 : 57 < c
        · have HF := hide (numsB_bad (base := 10) s.data.toList s[k] (mem_at s k hlt) (by rw [← HC.out]; exact dv10_no (.inr h57)))
          go_wp2
          go_ret2
          exact ⟨.inr ⟨.inl HF.out, rfl⟩, Below.refl _ _⟩
        · have h1 := HD.out
          have hstep := numsB_step hlt h1.2.1 (by rw [← HC.out]; exact dv10_of (by omega) (by omega))
          have hless := RdRel.less h1.1 h1.2.1 (by omega)
          have hle : (ds ++ [((c - 48 : Nat) : Int)]).length = k + 1 := by simp [h1.1]
          have hbd := RdRel.bound hle hstep (by omega)
          have hv := val10_snoc ds ((c - 48 : Nat) : Int)
          have hn2 : n < 1000000000 := by omega
          have HS := hide (And.intro hle (And.intro hstep (And.intro hv hbd)))
          clear hstep hless hle hbd hv h1
          go_wp2
          go_round
          case rel =>
            obtain ⟨a1, a2, a3, a4⟩ := HS.out
            have h1 := HD.out.2.2
            refine ⟨k + 1, ds ++ [((c - 48 : Nat) : Int)], _, by omega, by go_num, rfl, ⟨a1, a2, ?_⟩, by omega, by omega⟩
            omega
          case measure => simp [intOf]; omega
    · have h1 := HD.out
      have hf : numsB 10 s.data.toList = some ds := by rw [← h1.2.1, take_all s k (by omega)]
      have HF := hide hf
      have HV := hide h1.2.2
      by_cases hbig : 1000000000 < n
      · have HO : Hid (rdOk s ds = false) := by
          show _ = _
          have : decide (val10 ds ≤ 1000000000) = false := by simp; omega
          simp [rdOk, this]
        clear h1 hf
        go_wp2
        go_ret2
        exact ⟨.inr ⟨.inr ⟨ds, HF.out, HO.out⟩, rfl⟩, Below.refl _ _⟩
      · have HQ := hide (rd_eq hf (by omega))
        have hd3 : decide ((1000000000 : Int) < n) = false := by simp; omega
        clear h1 hf
        go_wp2_with (go_at_call 30; refine (specDecimal_any _ _ hn0 (by omega)).mono ?_; rintro e w1 ⟨rfl, hb1⟩)
        · have ht : (!(strOfNums (decI n)).toList == s.toList) = true := by assumption
          go_ret2
          exact ⟨.inr ⟨.inr ⟨ds, HF.out, by rw [HQ.out, ← HV.out]; simpa using ht⟩, rfl⟩, hb1⟩
        · have ht : (!(strOfNums (decI n)).toList == s.toList) = false := by assumption
          go_ret2
          exact ⟨.inl ⟨ds, HF.out, by rw [HQ.out, ← HV.out]; simpa using ht, by rw [← HV.out]; rfl⟩, hb1⟩
end Go.Proofs.Ytmenkckdabfkcaa
