/-
  What is written is read back: numbers as bytes and as figures, texts as figures.
-/
import Derived.Test.YtgbplfahbkdalaaDoorAidR
import Derived.Test.YtgbplfahbkdalaaDoorRdI
import Derived.Test.YtgbplfahbkdalaaDoorUnhexI
import Derived.Test.YtgbplfahbkdalaaDoorReadShortW
namespace Go.Proofs.YtgbplfahbkdalaaDoor
open Go.RowKit

/-- The bytes of numbers. -/
def u8s (xs : List Int) : List UInt8 := xs.map fun n => UInt8.ofNat n.toNat
theorem u8_of {n : Nat} (h : n < 256) : (UInt8.ofNat n).toNat = n := by rw [UInt8.toNat_ofNat']; omega

theorem rv_back : ∀ (m : Nat) (rest : List UInt8) (first : Bool) (u N i k : Nat), (varL m).length ≤ k → N + m * u ≤ 1000000000 → (first = true ∨ m ≠ 0) →
    rvGo (u8s (varL m) ++ rest) first u N i k = (N + m * u, i + (varL m).length, true) := by
  intro m
  induction m using Nat.strongRecOn with
  | _ m ih =>
    intro rest first u N i k hk hN hf
    by_cases hm : 127 < m
    · rw [varL_big hm] at hk ⊢
      match k, hk with
      | k + 1, hk =>
        have e : ((m % 128 + 128 : Nat) : Int).toNat = m % 128 + 128 := by omega
        have hb : (UInt8.ofNat (m % 128 + 128)).toNat = m % 128 + 128 := u8_of (by omega)
        simp only [u8s, List.map_cons, List.cons_append, rvGo, e, hb]
        rw [if_pos (by omega)]
        have hmod : (m % 128 + 128) % 128 = m % 128 := by omega
        have hsum : N + m % 128 * u + m / 128 * (u * 128) = N + m * u := by
          have h1 : m / 128 * (u * 128) = (m / 128 * 128) * u := by rw [Nat.mul_comm u 128, ← Nat.mul_assoc]
          rw [h1, Nat.add_assoc, ← Nat.add_mul]
          congr 2
          omega
        have := ih (m / 128) (by omega) rest false (u * 128) (N + m % 128 * u) (i + 1) k (by simpa using hk) (by rw [hsum]; exact hN) (.inr (by omega))
        rw [hmod]
        unfold u8s at this
        rw [this, hsum]
        simp
        omega
    · rw [varL_small (by omega)] at hk ⊢
      match k, hk with
      | k + 1, hk =>
        have e : ((m : Nat) : Int).toNat = m := by omega
        have hb : (UInt8.ofNat m).toNat = m := u8_of (by omega)
        simp only [u8s, List.map_cons, List.map_nil, List.cons_append, rvGo, e, hb]
        have hmod : m % 128 = m := by omega
        rw [if_neg (by omega), hmod, if_neg]
        · simp
        · rintro (⟨h0, h1⟩ | h)
          · rcases hf with h | h
            · rw [h] at h1; cases h1
            · exact h h0
          · omega

theorem numsB_figs {base : Nat} (hb : base ≤ 16) : ∀ (ds : List Nat), (∀ d ∈ ds, d < base) → numsB base (u8s (ds.map fun (d : Nat) => figI (d : Int))) = some (ds.map fun (d : Nat) => (d : Int))
  | [], _ => rfl
  | d :: ds, h => by
    have hd := h d (by simp)
    have ih := numsB_figs hb ds (fun x hx => h x (by simp [hx]))
    have h1 := figI_in (x := (d : Int)) (by omega) (by omega)
    have h2 : (UInt8.ofNat (figI (d : Int)).toNat).toNat = (figI (d : Int)).toNat := u8_of (by omega)
    have h3 : dv base (figI (d : Int)).toNat = some d := dv_of hd (by omega) (by omega)
    unfold u8s at ih ⊢
    simp only [List.map_cons, numsB, h2, h3, ih]

theorem decR_digs : ∀ (n : Nat), ∃ ds : List Nat, (∀ d ∈ ds, d < 10) ∧ decR n = (ds.map fun (d : Nat) => figI (d : Int)) ∧ val10 (ds.map fun (d : Nat) => (d : Int)) = (n : Int) := by
  intro n
  induction n using Nat.strongRecOn with
  | _ n ih =>
    by_cases h0 : n = 0
    · subst h0
      exact ⟨[], by simp, by rw [decR_zero]; rfl, rfl⟩
    · obtain ⟨ds, h1, h2, h3⟩ := ih (n / 10) (by omega)
      refine ⟨ds ++ [n % 10], ?_, ?_, ?_⟩
      · intro d hd
        rcases List.mem_append.1 hd with h | h
        · exact h1 d h
        · simp at h; omega
      · rw [decR_pos (by omega), h2, List.map_append]
        simp only [List.map_cons, List.map_nil]
        rw [figI_lo (by omega)]
        simp
      · rw [List.map_append]
        simp only [List.map_cons, List.map_nil]
        rw [val10_snoc, h3]
        omega

theorem decI_digs (n : Nat) : ∃ ds : List Nat, (∀ d ∈ ds, d < 10) ∧ decI (n : Int) = (ds.map fun (d : Nat) => figI (d : Int)) ∧ val10 (ds.map fun (d : Nat) => (d : Int)) = (n : Int) := by
  by_cases h0 : n = 0
  · subst h0
    exact ⟨[0], by simp, rfl, rfl⟩
  · obtain ⟨ds, h1, h2, h3⟩ := decR_digs n
    exact ⟨ds, h1, by rw [decI_pos (by omega)]; simpa using h2, h3⟩

theorem decI_size (n : Nat) (hn : n ≤ 1000000000) : 0 < (strOfNums (decI (n : Int))).size ∧ (strOfNums (decI (n : Int))).size ≤ 10 := by
  rw [strOfNums_size]
  by_cases h0 : n = 0
  · subst h0; exact ⟨by decide, by decide⟩
  · have h1 : decI (n : Int) ≠ [] := decI_ne_nil _
    refine ⟨List.length_pos_iff.2 h1, ?_⟩
    rw [decI_pos (by omega)]
    exact decR_len 10 _ (by simp; omega)

theorem rd_back (n : Nat) (hn : n ≤ 1000000000) {w w' : World} {e : Ending} (h : RdEnd (strOfNums (decI (n : Int))) w e w') : e = .returned (.tuple #[.int .i64 (n : Int), .bool true]) ∧ Below w.heap.size w w' := by
  obtain ⟨ds, h1, h2, h3⟩ := decI_digs n
  have hb : numsB 10 (strOfNums (decI (n : Int))).data.toList = some (ds.map fun (d : Nat) => (d : Int)) := by
    rw [strOfNums_data, h2]; exact numsB_figs (by omega) ds h1
  have ho := rd_eq hb (by rw [h3]; omega)
  rw [h3, str_beq.2 rfl] at ho
  obtain ⟨⟨ds', g1, g2, g3⟩ | ⟨g | ⟨ds', g1, g2⟩, _⟩, hbel⟩ := h
  · rw [hb] at g1
    injection g1 with g1
    subst g1
    rw [h3] at g3
    exact ⟨g3, hbel⟩
  · rw [hb] at g; cases g
  · rw [hb] at g1
    injection g1 with g1
    subst g1
    rw [ho] at g2; cases g2

theorem hexL_digs : ∀ (l : List UInt8), ∃ ds : List Nat, (∀ d ∈ ds, d < 16) ∧ hexL l = (ds.map fun (d : Nat) => figI (d : Int)) ∧ pairsL (ds.map fun (d : Nat) => (d : Int)) = l.map fun b => (b.toNat : Int)
  | [] => ⟨[], by simp, rfl, rfl⟩
  | b :: l => by
    obtain ⟨ds, h1, h2, h3⟩ := hexL_digs l
    have hb : b.toNat < 256 := b.toNat_lt
    refine ⟨b.toNat / 16 :: b.toNat % 16 :: ds, ?_, ?_, ?_⟩
    · intro d hd
      simp only [List.mem_cons] at hd
      rcases hd with h | h | h
      · omega
      · omega
      · exact h1 d h
    · have e : hexL (b :: l) = figI ((b.toNat : Int) / 16) :: figI ((b.toNat : Int) % 16) :: hexL l := rfl
      rw [e, h2]
      simp
    · simp only [List.map_cons, pairsL, h3]
      congr 1
      omega

theorem bytes_same (s : ByteArray) : strOfNums (s.data.toList.map fun b => (b.toNat : Int)) = s := by
  apply ByteArray.ext
  apply Array.toList_inj.1
  rw [strOfNums_data, List.map_map]
  conv => rhs; rw [← List.map_id s.data.toList]
  apply List.map_congr_left
  intro b _
  simp

theorem un_back (s : ByteArray) {w w' : World} {e : Ending} (h : UnEnd (strOfNums (hexL s.data.toList)) w e w') : e = .returned (.tuple #[.string s, .bool true]) ∧ Below w.heap.size w w' := by
  obtain ⟨ds, h1, h2, h3⟩ := hexL_digs s.data.toList
  have hb : numsB 16 (strOfNums (hexL s.data.toList)).data.toList = some (ds.map fun (d : Nat) => (d : Int)) := by
    rw [strOfNums_data, h2]; exact numsB_figs (by omega) ds h1
  obtain ⟨⟨ds', g1, g3⟩ | ⟨g, _⟩, hbel⟩ := h
  · rw [hb] at g1
    injection g1 with g1
    subst g1
    rw [h3, bytes_same] at g3
    exact ⟨g3, hbel⟩
  · rw [hb] at g; cases g

theorem extract_back (x t : ByteArray) : (x ++ t).extract x.size (x.size + t.size) = t := by
  apply ByteArray.ext
  apply Array.toList_inj.1
  rw [bl_extract, ByteArray.data_append, Array.toList_append]
  have e : x.size = x.data.toList.length := by rw [Array.length_toList]; rfl
  have e2 : t.size = t.data.toList.length := by rw [Array.length_toList]; rfl
  rw [e, List.drop_left, e2, List.take_length]

/-- What ReadVar says of a number ahead of anything. -/
theorem rv_front (n : Nat) (hn : n ≤ 1000000000) (x y : ByteArray) : rvGo ((x ++ strOfNums (varL n) ++ y).data.toList.drop x.size) true 1 0 x.size 5 = (n, x.size + (varL n).length, true) := by
  have e : x.size = x.data.toList.length := by rw [Array.length_toList]; rfl
  have h := rv_back n y.data.toList true 1 0 x.size 5 (varL_len 4 n (by omega)) (by omega) (.inl rfl)
  rw [ByteArray.data_append, ByteArray.data_append, Array.toList_append, Array.toList_append, List.append_assoc]
  conv => lhs; arg 1; rw [e]
  rw [List.drop_left, strOfNums_data]
  unfold u8s at h
  rw [h]
  simp
end Go.Proofs.YtgbplfahbkdalaaDoor
