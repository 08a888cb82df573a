/-
  Plain mathematics: reading the bytes of a number.
-/
import Derived.Test.YtgbplfahbkdalaaDoorAid
namespace Go.Proofs.YtgbplfahbkdalaaDoor

/-- What is read from a list of bytes: the number, the place behind it, whether there is one. 'first': no byte has been read yet; 'unit': what the next seven bits are worth. -/
def rvGo : List UInt8 → Bool → Nat → Nat → Nat → Nat → Nat × Nat × Bool
  | _, _, _, _, _, 0 => (0, 0, false)
  | [], _, _, _, _, _ + 1 => (0, 0, false)
  | b :: bs, first, unit, n, i, k + 1 =>
    if 128 ≤ b.toNat then rvGo bs false (unit * 128) (n + b.toNat % 128 * unit) (i + 1) k
    else if (b.toNat = 0 ∧ first = false) ∨ 1000000000 < n + b.toNat % 128 * unit then (0, 0, false)
    else (n + b.toNat % 128 * unit, i + 1, true)

/-- What a list of bytes is worth. -/
def valL : List Int → Nat
  | [] => 0
  | c :: cs => c.toNat % 128 + 128 * valL cs

theorem valL_snoc : ∀ (cs : List Int) (b : Int), valL (cs ++ [b]) = valL cs + b.toNat % 128 * 128 ^ cs.length
  | [], b => by simp [valL]
  | c :: cs, b => by
    simp only [List.cons_append, valL, valL_snoc cs b, List.length_cons, Nat.pow_succ]
    rw [Nat.mul_add, ← Nat.add_assoc]
    congr 1
    rw [← Nat.mul_assoc, Nat.mul_comm 128, Nat.mul_assoc, Nat.mul_comm 128]

theorem valL_lt : ∀ (cs : List Int), valL cs < 128 ^ cs.length
  | [] => by simp [valL]
  | c :: cs => by
    have := valL_lt cs
    simp only [valL, List.length_cons, Nat.pow_succ]
    have : c.toNat % 128 < 128 := Nat.mod_lt _ (by decide)
    omega

/-- Bytes that go on, and a last one that is not needless: these are the number's own bytes. -/
theorem varL_val : ∀ (cs : List Int) (b : Int), (∀ c ∈ cs, 128 ≤ c ∧ c < 256) → 0 ≤ b → b < 128 → (cs = [] ∨ b ≠ 0) → varL (valL (cs ++ [b])) = cs ++ [b]
  | [], b, _, h0, h1, _ => by
    have : valL [b] = b.toNat := by simp [valL]; omega
    rw [List.nil_append, this, varL_small (by omega)]
    congr 1; omega
  | c :: cs, b, hc, h0, h1, h => by
    have hb : b ≠ 0 := by rcases h with h | h; · cases h
                          · exact h
    have ih := varL_val cs b (fun x hx => hc x (List.mem_cons_of_mem _ hx)) h0 h1 (.inr hb)
    have hc0 := hc c (List.mem_cons_self ..)
    have hpos : 0 < valL (cs ++ [b]) := by
      rw [valL_snoc]
      have : b.toNat % 128 = b.toNat := Nat.mod_eq_of_lt (by omega)
      rw [this]
      have : 0 < b.toNat := by omega
      have : 0 < 128 ^ cs.length := Nat.pow_pos (by decide)
      have := Nat.mul_pos ‹0 < b.toNat› this
      omega
    simp only [List.cons_append, valL]
    rw [varL_big (by omega)]
    congr 1
    · omega
    · rw [show (c.toNat % 128 + 128 * valL (cs ++ [b])) / 128 = valL (cs ++ [b]) by omega, ih]

/-- A number's own bytes do not end in 0, but for the number 0. -/
theorem varL_last (n : Nat) : ∀ (cs : List Int), varL n = cs ++ [0] → cs = [] := by
  induction n using Nat.strongRecOn with
  | _ n ih =>
    intro cs h
    by_cases hn : 127 < n
    · rw [varL_big hn] at h
      cases cs with
      | nil =>
        simp only [List.nil_append, List.cons.injEq] at h
        have h2 := varL_pos (n / 128)
        simp [h.2] at h2
      | cons c cs =>
        simp only [List.cons_append, List.cons.injEq] at h
        have hcs := ih (n / 128) (by omega) cs h.2
        subst hcs
        have h2 := h.2
        by_cases hm : 127 < n / 128
        · rw [varL_big hm] at h2
          simp only [List.nil_append, List.cons.injEq] at h2
          have h3 := varL_pos (n / 128 / 128)
          simp [h2.2] at h3
        · rw [varL_small (by omega)] at h2
          simp at h2 <;> omega
    · rw [varL_small (by omega)] at h
      cases cs with
      | nil => rfl
      | cons c cs => simp at h

/-- What the answer is, as the loop goes: j bytes have been read, each of them goes on; U is what the next seven bits are worth, N what has been read is worth. -/
def RvAt (s : ByteArray) (a j N U : Nat) : Prop :=
  U = 128 ^ j ∧ N < U ∧ rvGo (s.data.toList.drop a) true 1 0 a 5 = rvGo (s.data.toList.drop (a + j)) (j == 0) U N (a + j) (5 - j)

theorem RvAt.start (s : ByteArray) (a : Nat) : RvAt s a 0 0 1 := ⟨rfl, by decide, rfl⟩

theorem drop_at (s : ByteArray) (k : Nat) (h : k < s.size) : s.data.toList.drop k = s[k] :: s.data.toList.drop (k + 1) := by
  rw [List.drop_eq_getElem_cons (by simpa using h)]
  rfl

theorem RvAt.unit {s : ByteArray} {a j N U : Nat} (h : RvAt s a j N U) (hj : j ≤ 5) : 1 ≤ U ∧ U ≤ 34359738368 ∧ (j ≤ 4 → U ≤ 268435456) ∧ (j = 5 → U = 34359738368) := by
  obtain ⟨rfl, _, _⟩ := h
  have : j = 0 ∨ j = 1 ∨ j = 2 ∨ j = 3 ∨ j = 4 ∨ j = 5 := by omega
  rcases this with rfl | rfl | rfl | rfl | rfl | rfl <;> simp

theorem RvAt.mul {U : Nat} (b : Nat) : 0 ≤ ((b : Int) % 128) * (U : Int) ∧ ((b : Int) % 128) * (U : Int) ≤ 127 * U := by
  have h1 : (0 : Int) ≤ (b : Int) % 128 := by omega
  have h2 : (b : Int) % 128 ≤ 127 := by omega
  exact ⟨Int.mul_nonneg h1 (by omega), Int.mul_le_mul_of_nonneg_right h2 (by omega)⟩

theorem RvAt.step {s : ByteArray} {a j N U : Nat} (h : RvAt s a j N U) (hj : j ≤ 4) (hlt : a + j < s.size) (hb : 128 ≤ s[a + j].toNat) :
    RvAt s a (j + 1) (N + s[a + j].toNat % 128 * U) (U * 128) := by
  obtain ⟨hU, hN, hr⟩ := h
  refine ⟨by rw [hU, Nat.pow_succ], ?_, ?_⟩
  · have h1 : s[a + j].toNat % 128 ≤ 127 := by omega
    have := Nat.mul_le_mul_right U h1
    omega
  · rw [hr, drop_at s (a + j) hlt, show 5 - j = (5 - (j + 1)) + 1 by omega, rvGo, if_pos hb]
    rfl

theorem RvAt.ended {s : ByteArray} {a j N U : Nat} (h : RvAt s a j N U) (hj : s.size ≤ a + j ∨ 5 ≤ j) : rvGo (s.data.toList.drop a) true 1 0 a 5 = (0, 0, false) := by
  obtain ⟨hU, hN, hr⟩ := h
  rw [hr]
  rcases hj with hj | hj
  · have : s.data.toList.drop (a + j) = [] := List.drop_eq_nil_of_le (by simpa using hj)
    rw [this]
    cases 5 - j <;> rfl
  · rw [show 5 - j = 0 by omega, rvGo]

theorem RvAt.over {s : ByteArray} {a j N U : Nat} (h : RvAt s a j N U) (hj : j ≤ 4) (hlt : a + j < s.size) (hb : ¬ 128 ≤ s[a + j].toNat)
    (hn : (s[a + j].toNat = 0 ∧ j ≠ 0) ∨ 1000000000 < N + s[a + j].toNat % 128 * U) : rvGo (s.data.toList.drop a) true 1 0 a 5 = (0, 0, false) := by
  obtain ⟨hU, hN, hr⟩ := h
  rw [hr, drop_at s (a + j) hlt, show 5 - j = (5 - (j + 1)) + 1 by omega, rvGo, if_neg hb, if_pos (by simpa using hn)]

theorem RvAt.good {s : ByteArray} {a j N U : Nat} (h : RvAt s a j N U) (hj : j ≤ 4) (hlt : a + j < s.size) (hb : ¬ 128 ≤ s[a + j].toNat)
    (hn : ¬ ((s[a + j].toNat = 0 ∧ j ≠ 0) ∨ 1000000000 < N + s[a + j].toNat % 128 * U)) : rvGo (s.data.toList.drop a) true 1 0 a 5 = (N + s[a + j].toNat % 128 * U, a + j + 1, true) := by
  obtain ⟨hU, hN, hr⟩ := h
  rw [hr, drop_at s (a + j) hlt, show 5 - j = (5 - (j + 1)) + 1 by omega, rvGo, if_neg hb, if_neg (by simpa using hn)]

theorem cast_sum (N b U : Nat) : ((N : Int) + (b : Int) % 128 * (U : Int)) = ((N + b % 128 * U : Nat) : Int) := by simp
theorem cast_over {N b U : Nat} (h : 1000000000 < N + b % 128 * U) : (1000000000 : Int) < (N : Int) + (b : Int) % 128 * (U : Int) := by
  rw [cast_sum]; omega
theorem cast_fits {N b U : Nat} (h : N + b % 128 * U ≤ 1000000000) : (N : Int) + (b : Int) % 128 * (U : Int) ≤ 1000000000 := by
  rw [cast_sum]; omega

theorem over_pos {N b U : Nat} (h : 1000000000 < N + b % 128 * U) (hN : N < U) (hU : U ≤ 268435456) : 1 ≤ b := by
  rcases Nat.eq_zero_or_pos b with h0 | h0
  · subst h0; simp at h; omega
  · exact h0
theorem cast_none {N b U : Nat} (h : ¬ 1 ≤ b) : (N : Int) = ((N + b % 128 * U : Nat) : Int) := by
  have : b = 0 := by omega
  subst this; simp

/-- Three results as the walk hands them back. -/
def rvRes (r : Nat × Nat × Bool) : Value := .tuple #[.int .i64 r.1, .int .i64 r.2.1, .bool r.2.2]
theorem rv_ret {r : Nat × Nat × Bool} {x y : Nat} {c : Bool} {X Y : Int} (h : r = (x, y, c)) (hX : X = x) (hY : Y = y) : Ending.returned (.tuple #[.int .i64 X, .int .i64 Y, .bool c]) = .returned (rvRes r) := by
  subst hX hY; rw [h]; rfl

/-- The bytes of a text from a place on, so many of them. -/
def bl (s : ByteArray) (a j : Nat) : List Int := ((s.data.toList.drop a).take j).map fun b => (b.toNat : Int)

theorem bl_succ (s : ByteArray) (a j : Nat) (h : a + j < s.size) : bl s a (j + 1) = bl s a j ++ [(s[a + j].toNat : Int)] := by
  unfold bl
  have h1 : j < (s.data.toList.drop a).length := by
    have : s.data.toList.length = s.size := by rw [Array.length_toList]; rfl
    simp [this]; omega
  rw [List.take_succ_eq_append_getElem h1, List.map_append, List.getElem_drop]
  rfl
theorem bl_length (s : ByteArray) (a j : Nat) (h : a + j ≤ s.size) : (bl s a j).length = j := by
  have : s.data.toList.length = s.size := by rw [Array.length_toList]; rfl
  simp [bl, this]; omega

/-- What has been read is worth so much, and each of it goes on. -/
def SpAt (s : ByteArray) (a j N : Nat) : Prop := N = valL (bl s a j) ∧ ∀ c ∈ bl s a j, 128 ≤ c ∧ c < 256

theorem SpAt.start (s : ByteArray) (a : Nat) : SpAt s a 0 0 := by simp [SpAt, bl, valL]
theorem SpAt.step {s : ByteArray} {a j N U : Nat} (h : SpAt s a j N) (r : RvAt s a j N U) (hlt : a + j < s.size) (hb : 128 ≤ s[a + j].toNat) : SpAt s a (j + 1) (N + s[a + j].toNat % 128 * U) := by
  refine ⟨?_, ?_⟩
  · rw [bl_succ s a j hlt, valL_snoc, bl_length s a j (by omega), ← h.1, r.1]
    simp
  · intro c hc
    rw [bl_succ s a j hlt] at hc
    rcases List.mem_append.1 hc with hc | hc
    · exact h.2 c hc
    · have hb8 : s[a + j].toNat < 256 := s[a + j].toNat_lt
      simp at hc; omega

/-- The number's own bytes are what stands there, just when the last byte is not needless. -/
theorem SpAt.own {s : ByteArray} {a j N U : Nat} (h : SpAt s a j N) (r : RvAt s a j N U) (hlt : a + j < s.size) (hb : ¬ 128 ≤ s[a + j].toNat) (hn : j = 0 ∨ 1 ≤ s[a + j].toNat) :
    varL (N + s[a + j].toNat % 128 * U) = bl s a (j + 1) := by
  have e : N + s[a + j].toNat % 128 * U = valL (bl s a j ++ [(s[a + j].toNat : Int)]) := by
    rw [valL_snoc, bl_length s a j (by omega), ← h.1, r.1]
    simp
  rw [e, bl_succ s a j hlt]
  refine varL_val _ _ h.2 (by omega) (by omega) ?_
  rcases hn with hn | hn
  · subst hn; exact .inl (by simp [bl])
  · exact .inr (by omega)
theorem SpAt.needless {s : ByteArray} {a j n : Nat} (hlt : a + j < s.size) (hj : 1 ≤ j) (hb : s[a + j].toNat = 0) : varL n ≠ bl s a (j + 1) := by
  intro e
  rw [bl_succ s a j hlt, hb] at e
  have := varL_last n _ e
  have h2 := bl_length s a j (by omega)
  rw [this] at h2
  simp at h2; omega

theorem bl_extract (s : ByteArray) (a j : Nat) : (s.extract a (a + j)).data.toList = (s.data.toList.drop a).take j := by
  rw [ByteArray.data_extract]
  simp [Array.toList_extract, List.extract]
theorem strOfNums_bl (s : ByteArray) (a j : Nat) : strOfNums (bl s a j) = s.extract a (a + j) := by
  apply ByteArray.ext
  apply Array.toList_inj.1
  rw [bl_extract s a j, strOfNums_data, bl, List.map_map]
  conv => rhs; rw [← List.map_id (List.take j (List.drop a s.data.toList))]
  apply List.map_congr_left
  intro b _
  simp
theorem varL_byte (n : Nat) : ∀ c ∈ varL n, 0 ≤ c ∧ c < 256 := by
  induction n using Nat.strongRecOn with
  | _ n ih =>
    intro c hc
    by_cases hn : 127 < n
    · rw [varL_big hn] at hc
      rcases List.mem_cons.1 hc with rfl | hc
      · omega
      · exact ih (n / 128) (by omega) c hc
    · rw [varL_small (by omega)] at hc
      simp at hc; omega
theorem strOfNums_inj : ∀ (xs ys : List Int), (∀ c ∈ xs, 0 ≤ c ∧ c < 256) → (∀ c ∈ ys, 0 ≤ c ∧ c < 256) → strOfNums xs = strOfNums ys → xs = ys := by
  intro xs ys hx hy h
  have h1 : (xs.map fun n => UInt8.ofNat n.toNat) = ys.map fun n => UInt8.ofNat n.toNat := by rw [← strOfNums_data, ← strOfNums_data, h]
  have key : ∀ zs : List Int, (∀ c ∈ zs, 0 ≤ c ∧ c < 256) → (zs.map fun n => UInt8.ofNat n.toNat).map (fun b => (b.toNat : Int)) = zs := by
    intro zs hz
    rw [List.map_map]
    conv => rhs; rw [← List.map_id zs]
    apply List.map_congr_left
    intro c hc
    have := hz c hc
    simp [UInt8.toNat_ofNat']; omega
  rw [← key xs hx, ← key ys hy, h1]
theorem bl_byte (s : ByteArray) (a j : Nat) : ∀ c ∈ bl s a j, 0 ≤ c ∧ c < 256 := by
  intro c hc
  obtain ⟨b, _, rfl⟩ := List.mem_map.1 hc
  have := b.toNat_lt
  omega
theorem slice_mid {P : Program} {t : TypeId} (ht : P.underlying t = some .string) (s : ByteArray) (a j : Nat) (h : a + j < s.size) (w : World) :
    (Instr.slice t (.string s) (some (.int .i64 (a : Int))) (some (.int .i64 ((a : Int) + (j : Int) + 1))) none).run P w = .ok (.string (s.extract a (a + j + 1))) w := by
  rw [run_slice_string (P := P) (w := w) t s .i64 .i64 a ((a : Int) + (j : Int) + 1) ht (by omega) (by omega) (by omega)]
  congr 2

theorem RvAt.cmp_ne {s : ByteArray} {a j N U : Nat} (r : RvAt s a j N U) (h : SpAt s a j N) (hj : j ≤ 4) (hlt : a + j < s.size) (hb : ¬ 128 ≤ s[a + j].toNat)
    (ht : (!(strOfNums (varL (N + s[a + j].toNat % 128 * U))).toList == (s.extract a (a + j + 1)).toList) = true) : rvGo (s.data.toList.drop a) true 1 0 a 5 = (0, 0, false) := by
  refine r.over hj hlt hb (.inl ?_)
  rcases Nat.eq_zero_or_pos j with h0 | h0
  · rw [h.own r hlt hb (.inl h0), strOfNums_bl] at ht
    simp [Nat.add_assoc] at ht
  · rcases Nat.eq_zero_or_pos s[a + j].toNat with h1 | h1
    · exact ⟨h1, by omega⟩
    · rw [h.own r hlt hb (.inr h1), strOfNums_bl] at ht
      simp [Nat.add_assoc] at ht

theorem RvAt.cmp_eq {s : ByteArray} {a j N U : Nat} (r : RvAt s a j N U) (hj : j ≤ 4) (hlt : a + j < s.size) (hb : ¬ 128 ≤ s[a + j].toNat) (hn : N + s[a + j].toNat % 128 * U ≤ 1000000000)
    (ht : (!(strOfNums (varL (N + s[a + j].toNat % 128 * U))).toList == (s.extract a (a + j + 1)).toList) = false) : rvGo (s.data.toList.drop a) true 1 0 a 5 = (N + s[a + j].toNat % 128 * U, a + j + 1, true) := by
  refine r.good hj hlt hb ?_
  rintro (⟨h0, h1⟩ | h)
  · have e : strOfNums (varL (N + s[a + j].toNat % 128 * U)) = s.extract a (a + j + 1) := str_beq.1 (by simpa using ht)
    rw [Nat.add_assoc, ← strOfNums_bl] at e
    exact SpAt.needless hlt (by omega) h0 (strOfNums_inj _ _ (varL_byte _) (bl_byte _ _ _) e)
  · omega
end Go.Proofs.YtgbplfahbkdalaaDoor
