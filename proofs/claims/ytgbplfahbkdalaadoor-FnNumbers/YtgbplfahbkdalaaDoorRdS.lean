/-
  Walks: decimal figures read, by the specification.
-/
import Derived.Test.YtgbplfahbkdalaaDoorDecS
import Derived.Test.YtgbplfahbkdalaaDoorFigW
namespace Go.Proofs.YtgbplfahbkdalaaDoor
open Go.RowKit

theorem dv10 {c d : Nat} (h : dv 10 c = some d) : c = 48 + d ∧ d < 10 := by
  have h1 := dv_some h
  have h2 := h1.2.2
  rw [figI_lo (by omega)] at h2
  omega
theorem dv10_of {c : Nat} (h0 : 48 ≤ c) (h1 : c ≤ 57) : dv 10 c = some (c - 48) := by
  unfold dv; rw [if_pos (by omega)]
theorem dv10_no {c : Nat} (h : c < 48 ∨ 57 < c) : dv 10 c = none := by
  unfold dv; rw [if_neg (by omega), if_neg (by omega)]
theorem nums10_bytes : ∀ (l : List UInt8) (ds : List Int), numsB 10 l = some ds → l.map (fun b => (b.toNat : Int)) = ds.map (48 + ·)
  | [], ds, h => by
    simp only [numsB, Option.some.injEq] at h
    subst h; rfl
  | b :: l, ds, h => by
    unfold numsB at h
    cases e1 : dv 10 b.toNat with
    | none => rw [e1] at h; cases h
    | some d =>
      cases e2 : numsB 10 l with
      | none => rw [e1, e2] at h; cases h
      | some ds' =>
        rw [e1, e2] at h
        have := Option.some.inj h
        subst this
        have hd := dv10 e1
        rw [List.map_cons, List.map_cons, nums10_bytes l ds' e2]
        congr 1
        omega
theorem str_of_bytes (s : ByteArray) : strOfNums (s.data.toList.map fun b => (b.toNat : Int)) = s := by
  apply ByteArray.ext
  apply Array.toList_inj.1
  rw [strOfNums_data, List.map_map]
  conv => rhs; rw [← List.map_id s.data.toList]
  apply List.map_congr_left
  intro b _
  simp
theorem bytes_in (l : List UInt8) : ∀ c ∈ l.map (fun b => (b.toNat : Int)), 0 ≤ c ∧ c < 256 := by
  intro c hc
  obtain ⟨b, _, rfl⟩ := List.mem_map.1 hc
  have := b.toNat_lt
  omega

/-- The number that a text's figures are, and whether there is one. -/
def rdOk (s : ByteArray) (ds : List Int) : Bool := decide (0 < s.size) && !(decide (1 < s.size) && decide (ds.head? = some 0)) && decide (val10 ds ≤ 1000000000)

/-- What is handed back. -/
def RdEnd (s : ByteArray) (w : World) (e : Ending) (w' : World) : Prop :=
  ((∃ ds, numsB 10 s.data.toList = some ds ∧ rdOk s ds = true ∧ e = .returned (.tuple #[.int .i64 (val10 ds), .bool true])) ∨
    ((numsB 10 s.data.toList = none ∨ ∃ ds, numsB 10 s.data.toList = some ds ∧ rdOk s ds = false) ∧ e = .returned (.tuple #[.int .i64 0, .bool false]))) ∧ Below w.heap.size w w'

theorem rd_len {s : ByteArray} {ds : List Int} (h : numsB 10 s.data.toList = some ds) : ds.length = s.size := by
  rw [numsB_length _ _ h, Array.length_toList]; rfl
theorem rd_eq {s : ByteArray} {ds : List Int} (h : numsB 10 s.data.toList = some ds) (hr : val10 ds ≤ 1000000000) : rdOk s ds = ((strOfNums (decI (val10 ds))).toList == s.toList) := by
  have hl := rd_len h
  have hb := nums10_bytes _ _ h
  have hin := numsB_in _ _ h
  have hs := str_of_bytes s
  rw [hb] at hs
  rw [Bool.eq_iff_iff, str_beq]
  constructor
  · intro ho
    simp only [rdOk, Bool.and_eq_true, decide_eq_true_eq, Bool.not_eq_true', Bool.and_eq_false_iff, decide_eq_false_iff_not] at ho
    obtain ⟨⟨h1, h2⟩, _⟩ := ho
    rw [decI_val (fun d hd => ⟨(hin d hd).1, by have := (hin d hd).2.2; omega⟩) (fun e => by rw [e] at hl; simp at hl; omega) ?_, hs]
    by_cases h0 : ds.head? = some 0
    · left
      rcases h2 with h2 | h2
      · match ds, hl, h0 with
        | [], hl, h0 => simp at h0
        | [d], _, h0 => simp at h0; rw [h0]
        | _ :: _ :: _, hl, _ => simp at hl; omega
      · exact absurd h0 h2
    · right
      intro r hr'
      rw [hr'] at h0
      exact h0 rfl
  · intro he
    have e : decI (val10 ds) = ds.map (48 + ·) := by
      refine strOfNums_inj _ _ (decI_byte _) ?_ (he.trans hs.symm)
      rw [← hb]
      exact bytes_in _
    simp only [rdOk, Bool.and_eq_true, decide_eq_true_eq, Bool.not_eq_true', Bool.and_eq_false_iff, decide_eq_false_iff_not]
    refine ⟨⟨?_, ?_⟩, hr⟩
    · rcases Nat.eq_zero_or_pos s.size with h0 | h0
      · have : ds = [] := List.length_eq_zero_iff.1 (by omega)
        rw [this] at e
        exact absurd e (decI_ne_nil _)
      · exact h0
    · by_cases h1 : 1 < s.size
      · right
        intro h0
        match ds, hl, h0, e with
        | [], hl, h0, _ => simp at h0
        | [d], hl, _, _ => simp at hl; omega
        | a :: b :: r, _, h0, e =>
          simp at h0
          rw [h0] at e
          exact decI_needless e
      · exact .inl h1

/-- What the loop keeps: the first figures are worth so much. -/
def RdRel (s : ByteArray) (nv iv : Value) : Prop :=
  ∃ (k : Nat) (ds : List Int) (n : Int), k ≤ s.size ∧ iv = .int .i64 k ∧ nv = .int .i64 n ∧ Hid (ds.length = k ∧ numsB 10 (s.data.toList.take k) = some ds ∧ n = val10 ds) ∧ 0 ≤ n ∧ n < 10000000000

theorem RdRel.bound {k : Nat} {ds : List Int} {l : List UInt8} (hk : ds.length = k) (h : numsB 10 l = some ds) (h10 : k ≤ 10) : 0 ≤ val10 ds ∧ val10 ds < 10000000000 := by
  have hin := numsB_in _ _ h
  have := val10_in k ds hk (fun d hd => ⟨(hin d hd).1, by have := (hin d hd).2.2; omega⟩)
  have h2 : (10 : Int) ^ k ≤ 10 ^ 10 := by
    have : (10 : Nat) ^ k ≤ 10 ^ 10 := Nat.pow_le_pow_right (by omega) h10
    exact_mod_cast this
  omega
theorem RdRel.less {k : Nat} {ds : List Int} {l : List UInt8} (hk : ds.length = k) (h : numsB 10 l = some ds) (h10 : k ≤ 9) : val10 ds < 1000000000 := by
  have hin := numsB_in _ _ h
  have := val10_in k ds hk (fun d hd => ⟨(hin d hd).1, by have := (hin d hd).2.2; omega⟩)
  have h2 : (10 : Int) ^ k ≤ 10 ^ 9 := by
    have : (10 : Nat) ^ k ≤ 10 ^ 9 := Nat.pow_le_pow_right (by omega) h10
    exact_mod_cast this
  omega

end Go.Proofs.YtgbplfahbkdalaaDoor
