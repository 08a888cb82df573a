/-
  Lemmas that speak of no program: bytes of a number, a row of bytes that grows by one, a row of bytes as a text.
-/
import Derived.WalkKit
import Derived.Laws.BytesArg
import Derived.Laws.BytesString
import Derived.Test.YtmchgmpdhfefjaaProg
import Derived.Deep.RegionHeld3
import Derived.DataElems
namespace Go.Proofs.Ytmchgmpdhfefjaa
open Go.RowKit

theorem hide {p : Prop} (h : p) : Hid p := h
theorem unhide {p : Prop} (h : Hid p) : p := h

/-- The bytes of a number: seven bits each, the lowest first. -/
def varL (n : Nat) : List Int := if 127 < n then ((n % 128 + 128 : Nat) : Int) :: varL (n / 128) else [(n : Int)]

theorem varL_big {n : Nat} (h : 127 < n) : varL n = ((n % 128 + 128 : Nat) : Int) :: varL (n / 128) := by
  rw [varL, if_pos h]
theorem varL_small {n : Nat} (h : n ≤ 127) : varL n = [(n : Int)] := by
  rw [varL, if_neg (by omega)]
theorem varL_pos (n : Nat) : 0 < (varL n).length := by
  rw [varL]; split <;> simp
theorem varL_len : ∀ (k n : Nat), n < 2 ^ (7 * (k + 1)) → (varL n).length ≤ k + 1
  | 0, n, h => by rw [varL_small (by omega)]; simp
  | k + 1, n, h => by
    by_cases hn : 127 < n
    · rw [varL_big hn]
      have := varL_len k (n / 128) (by
        rw [Nat.div_lt_iff_lt_mul (by omega)]
        have e : 2 ^ (7 * (k + 1 + 1)) = 2 ^ (7 * (k + 1)) * 128 := by rw [show 7 * (k + 1 + 1) = 7 * (k + 1) + 7 from by omega, Nat.pow_add]
        omega)
      simp; omega
    · rw [varL_small (by omega)]; simp

/-- A row that is owned, one value appended (the value lies in a new block of one cell): what is owned behind it. -/
theorem wpList_app1 {P : Program} {w : World} {ops : Array Oper} {rest : List Oper} {o : Oper} {a : Act} {Q : Exit → Act → World → Prop} (hgd : o.guard = none) (s x : Operand) (t : TypeId)
    (ho : o.op = .call { callee := .builtin .append, args := #[s, x], argTypes := #[t, t] })
    (base : Nat) (e : TypeId) (z : Value) (bytes : Nat) (ht : P.underlying t = some (.slice e)) (hi : (P.info? e).map (fun i => (i.zero, i.size, i.bytes)) = some (some z, 1, bytes)) (hzs : z.cells.size = 1)
    (v : Value) (n : Nat) (xs : List Value) (u : Value) (hs : a.eval s = v) (hown : w.ownsRow base e 1 v n xs)
    (hx : a.eval x = .slice (some ⟨w.heap.size, 0, none⟩) 1 1) (h1 : u.oneCell' = true)
    (h63 : n + 1 ≤ maxLen) (hbytes : (n + 1) * bytes ≤ 140737488355328) (hbase : base ≤ w.heap.size)
    (h : ∀ v' w', w'.ownsRow base e 1 v' (n + 1) (xs ++ [u]) → Below base w w' → wpList P ops Q rest (a.put o.dst v') w') : wpList P ops Q (o :: rest) a (w.alloc (.cells #[u] e)) := by
  obtain ⟨i, hi, hz0, hz1, hz2⟩ := info_parts hi
  refine wpList_append_own _ hgd s x t ho base e i z 1 bytes ht hi hz0 hz1 hz2 hzs (by decide) v n xs hs (hown.alloc _) ⟨w.heap.size, 0, none⟩ 1 1 [u] hx rfl ?_ ?_ h63 hbytes ?_ ?_
  · intro j q hj
    match j, hj with
    | 0, hj => simp at hj; subst hj; simp [Addr.add]
    | j + 1, hj => simp at hj
  · intro q hq; simp at hq; subst hq; exact h1
  · simp; omega
  · intro v' w' hown' hgrow _
    refine h v' w' hown' ?_
    exact ((Below.refl base w).alloc hbase _).grown hgrow (by simp; omega) (fun j hj => (hown.lt j hj).1)

/-- The same at a step of a statement that leaves its order open: whatever world, whatever is appended. -/
theorem step_appn {P : Program} {W : World} {ops : Array Oper} {o : Oper} {a : Act} {K : Act → World → Prop} {Q : Exit → Act → World → Prop} {E : Prop} (hgd : o.guard = none) (s x : Operand) (t : TypeId)
    (ho : o.op = .call { callee := .builtin .append, args := #[s, x], argTypes := #[t, t] })
    (base : Nat) (e : TypeId) (z : Value) (bytes : Nat) (ht : P.underlying t = some (.slice e)) (hi : (P.info? e).map (fun i => (i.zero, i.size, i.bytes)) = some (some z, 1, bytes)) (hzs : z.cells.size = 1)
    (v : Value) (n : Nat) (xs : List Value) (hs : a.eval s = v) (hown : W.ownsRow base e 1 v n xs)
    (ad : Addr) (m c : Nat) (news : List Value) (hx : a.eval x = .slice (some ad) m c) (hl : news.length = m) (hnews : ∀ j u, news[j]? = some u → W.cell? (ad.add j) = some u) (h1 : ∀ u ∈ news, u.oneCell' = true)
    (h63 : n + m ≤ maxLen) (hbytes : (n + m) * bytes ≤ 140737488355328) (hbase : base ≤ W.heap.size)
    (h : ∀ v' w', w'.ownsRow base e 1 v' (n + m) (xs ++ news) → Below base W w' → K (a.put o.dst v') w') :
    if Region.wanted o (yielded ops a.tmps) = true then Oper.wp P o a W K Q else E := by
  obtain ⟨i, hi, hz0, hz1, hz2⟩ := info_parts hi
  have hw : Region.wanted o (yielded ops a.tmps) = true := by simp [Region.wanted, hgd]
  rw [if_pos hw]
  refine wp_append_own W s x t ho base e i z 1 bytes ht hi hz0 hz1 hz2 hzs (by decide) v n xs hs hown ad m c news hx (by omega) hnews h1 h63 hbytes hbase ?_
  intro v' w' hown' hgrow _
  exact h v' w' hown' ((Below.refl base W).grown hgrow hbase (fun j hj => (hown.lt j hj).1))

/-- A row of bytes that is owned, as a text. -/
theorem conv_own {P : Program} {w : World} {base : Nat} {v : Value} {n : Nat} {xs : List Int} (src dst e : TypeId) (hs : P.underlying src = some (.slice e)) (he : P.underlying e = some (.int .u8)) (hd : P.underlying dst = some .string)
    (hown : w.ownsRow base e 1 v n (xs.map (Value.int .u8))) : (convert src dst v).run P w = .ok (.string (strOfNums xs)) w := by
  have hl : xs.length = n := by simpa using hown.1
  rcases hown.2 with ⟨rfl, rfl⟩ | ⟨g, cap, cur, rfl, _, _, _, _, _, _⟩
  · have : xs = [] := List.length_eq_zero_iff.1 hl
    subst this
    rw [run_convert_bytes_nil w src e hs he 0 0 dst hd]
    rfl
  · refine run_convert_bytes_arg w src e hs he g 0 n cap xs hl ?_ dst hd
    intro i hi
    have := hown.cellAt i (by omega)
    rw [Nat.zero_add, this, List.getElem?_map, List.getD_eq_getElem?_getD, List.getElem?_eq_getElem (by omega)]
    rfl

theorem ownsRow_empty (w : World) (base : Nat) (e : TypeId) (hb : base ≤ w.heap.size) : (w.alloc (.cells #[] e)).ownsRow base e 1 (.slice (some ⟨w.heap.size, 0, none⟩) 0 0) 0 [] := by
  have := World.ownsRow_made (base := base) (e := e) (size := 1) w #[] 0 hb (by simp [maxLen]) (by simp)
  simpa using this

theorem str_inj {x y : ByteArray} (h : x.toList = y.toList) : x = y := by
  rw [ByteArray.toList_eq, ByteArray.toList_eq] at h
  exact ByteArray.ext (Array.toList_inj.1 h)
theorem str_beq {x y : ByteArray} : (x.toList == y.toList) = true ↔ x = y := by
  rw [beq_iff_eq]
  exact ⟨str_inj, fun h => by rw [h]⟩
end Go.Proofs.Ytmchgmpdhfefjaa

namespace Go.Proofs.Ytmchgmpdhfefjaa
open Go.RowKit

/-- A value. -/
def vok (n : Int) : Bool := decide (-1000000 ≤ n) && decide (n ≤ 1000000)
theorem vok_iff (n : Int) : vok n = true ↔ -1000000 ≤ n ∧ n ≤ 1000000 := by simp [vok]
theorem vok_not (n : Int) : vok n = false ↔ ¬ (-1000000 ≤ n ∧ n ≤ 1000000) := by rw [← vok_iff]; simp

theorem implValOk (n : Int) (w : World) : Calls Try.prog 66 #[.int .i64 n] w fun e w' => e = .returned (.bool (vok n)) ∧ w = w' := by
  by_cases h1 : -1000000 ≤ n
  · have b1 : decide (-1000000 ≤ n) = true := decide_eq_true h1
    have e : vok n = decide (n ≤ 1000000) := by simp [vok, b1]
    rw [e]
    clear h1 e
    go_enter Try.func66, Try.ntmps66
    go_wp2
    go_ret
    exact ⟨rfl, rfl⟩
  · have b1 : decide (-1000000 ≤ n) = false := decide_eq_false h1
    have e : vok n = false := by simp [vok, b1]
    rw [e]
    clear h1 e
    go_enter Try.func66, Try.ntmps66
    go_wp2
    go_ret
    exact ⟨rfl, rfl⟩
theorem specIn (n lo hi : Int) (w : World) : Calls Try.prog 34 #[.int .i64 n, .int .i64 lo, .int .i64 hi] w fun e w' => e = .returned (.bool (decide (lo ≤ n) && decide (n ≤ hi))) ∧ w = w' := by
  by_cases h1 : lo ≤ n
  · go_enter Try.func34, Try.ntmps34
    go_wp2
    go_ret
    exact ⟨by simp [h1], rfl⟩
  · go_enter Try.func34, Try.ntmps34
    go_wp2
    go_ret
    exact ⟨by simp; omega, rfl⟩
theorem specValOk (n : Int) (w : World) : Calls Try.prog 39 #[.int .i64 n] w fun e w' => e = .returned (.bool (vok n)) ∧ w = w' := by
  have S := hide (specIn n (-1000000) 1000000 w)
  go_enter Try.func39, Try.ntmps39
  go_wp2_with (go_at_call 34; refine (unhide S).mono ?_; rintro e w1 ⟨rfl, rfl⟩)
  go_ret
  exact ⟨rfl, rfl⟩
theorem implOne (b : Bool) (w : World) : Calls Try.prog 69 #[.bool b] w fun e w' => e = .returned (.int .i64 (if b then 1 else 0)) ∧ w = w' := by
  cases b <;> go_enter Try.func69, Try.ntmps69 <;> go_wp2 <;> go_ret <;> exact ⟨rfl, rfl⟩
theorem specOne (b : Bool) (w : World) : Calls Try.prog 70 #[.bool b] w fun e w' => e = .returned (.int .i64 (if b then 1 else 0)) ∧ w = w' := by
  cases b <;> go_enter Try.func70, Try.ntmps70 <;> go_wp2 <;> go_ret <;> exact ⟨rfl, rfl⟩

theorem implKnown (op : Int) (w : World) : Calls Try.prog 65 #[.int .i64 op] w fun e w' => e = .returned (.bool (decide (1 ≤ op) && decide (op ≤ 9))) ∧ w = w' := by
  by_cases h1 : 1 ≤ op
  · go_enter Try.func65, Try.ntmps65
    go_wp2
    go_ret
    exact ⟨by simp [h1], rfl⟩
  · go_enter Try.func65, Try.ntmps65
    go_wp2
    go_ret
    exact ⟨by simp; omega, rfl⟩
theorem implDivides (op : Int) (w : World) : Calls Try.prog 67 #[.int .i64 op] w fun e w' => e = .returned (.bool (decide (op = 4) || decide (op = 5))) ∧ w = w' := by
  by_cases h1 : op = 4
  all_goals go_enter Try.func67, Try.ntmps67
  all_goals go_wp2
  all_goals go_ret
  all_goals exact ⟨by by_cases h5 : op = 5 <;> simp_all, rfl⟩

/-- What comes out of two values. -/
def calcO (op a b : Int) : Int :=
  if op = 1 then a + b else if op = 2 then a - b else if op = 3 then a * b else if op = 4 then a.tdiv b else if op = 5 then a.tmod b
  else if op = 6 then (if decide (a < b) then 1 else 0) else if op = 7 then (if decide (a = b) then 1 else 0)
  else if op = 8 then (if decide (a ≠ 0) && decide (b ≠ 0) then 1 else 0) else (if decide (a ≠ 0) || decide (b ≠ 0) then 1 else 0)

theorem mul_small {a b : Int} (ha1 : -1000000 ≤ a) (ha2 : a ≤ 1000000) (hb1 : -1000000 ≤ b) (hb2 : b ≤ 1000000) : -1000000000000 ≤ a * b ∧ a * b ≤ 1000000000000 := by
  have h : (a * b).natAbs ≤ 1000000 * 1000000 := by rw [Int.natAbs_mul]; exact Nat.mul_le_mul (by omega) (by omega)
  omega
theorem tdiv_small {a : Int} (b : Int) (ha1 : -1000000 ≤ a) (ha2 : a ≤ 1000000) : -1000000 ≤ a.tdiv b ∧ a.tdiv b ≤ 1000000 := by
  have h : (a.tdiv b).natAbs ≤ 1000000 := by rw [Int.natAbs_tdiv]; exact Nat.le_trans (Nat.div_le_self _ _) (by omega)
  omega
theorem wrap_mul {a b : Int} (ha1 : -1000000 ≤ a) (ha2 : a ≤ 1000000) (hb1 : -1000000 ≤ b) (hb2 : b ≤ 1000000) : wrap64 (a * b) = a * b := by
  have h := mul_small ha1 ha2 hb1 hb2
  exact IntWalk.wrap64_in _ (by omega)
theorem wrap_tdiv {a : Int} (b : Int) (ha1 : -1000000 ≤ a) (ha2 : a ≤ 1000000) : wrap64 (a.tdiv b) = a.tdiv b := by
  have h := tdiv_small b ha1 ha2
  exact IntWalk.wrap64_in _ (by omega)

theorem implOf (op a b : Int) (w : World) (h1 : 1 ≤ op) (h9 : op ≤ 9) (ha : -1000000 ≤ a ∧ a ≤ 1000000) (hb : -1000000 ≤ b ∧ b ≤ 1000000) (hz : op = 4 ∨ op = 5 → b ≠ 0) :
    Calls Try.prog 68 #[.int .i64 op, .int .i64 a, .int .i64 b] w fun e w' => e = .returned (.int .i64 (calcO op a b)) ∧ w = w' := by
  obtain ⟨ha1, ha2⟩ := ha
  obtain ⟨hb1, hb2⟩ := hb
  obtain h | h | h | h | h | h | h | h | h : op = 1 ∨ op = 2 ∨ op = 3 ∨ op = 4 ∨ op = 5 ∨ op = 6 ∨ op = 7 ∨ op = 8 ∨ op = 9 := by omega
  · subst h; clear h1 h9 hz
    go_enter Try.func68, Try.ntmps68
    go_wp2
    go_ret
    exact ⟨rfl, rfl⟩
  · subst h; clear h1 h9 hz
    go_enter Try.func68, Try.ntmps68
    go_wp2
    go_ret
    exact ⟨rfl, rfl⟩
  · subst h; clear h1 h9 hz
    have hm := wrap_mul ha1 ha2 hb1 hb2
    go_enter Try.func68, Try.ntmps68
    go_wp2
    go_ret
    exact ⟨congrArg (fun z => Ending.returned (Value.int .i64 z)) hm, rfl⟩
  · subst h; have hb0 := hz (.inl rfl); have hm := wrap_tdiv b ha1 ha2; clear h1 h9 hz
    go_enter Try.func68, Try.ntmps68
    go_wp2
    go_ret
    exact ⟨congrArg (fun z => Ending.returned (Value.int .i64 z)) hm, rfl⟩
  · subst h; have hb0 := hz (.inr rfl); clear h1 h9 hz
    go_enter Try.func68, Try.ntmps68
    go_wp2
    go_ret
    exact ⟨rfl, rfl⟩
  all_goals subst h
  all_goals clear h1 h9 hz ha1 ha2 hb1 hb2
  all_goals by_cases h0 : a = 0
  all_goals go_enter Try.func68, Try.ntmps68
  all_goals go_wp2_with (go_at_call 69; refine (implOne _ _).mono ?_; rintro e w1 ⟨rfl, rfl⟩)
  all_goals go_ret
  all_goals exact ⟨by simp_all [calcO], rfl⟩
end Go.Proofs.Ytmchgmpdhfefjaa

namespace Go.Proofs.Ytmchgmpdhfefjaa
open Go.RowKit

/-- A row of numbers that can be read. -/
def IntsAt (w : World) (v : Value) (xs : List Int) : Prop :=
  ∃ ao c, v = .slice ao xs.length c ∧ ∀ j (h : j < xs.length), ∃ a, ao = some a ∧ a.block < w.heap.size ∧ w.cell? (a.add j) = some (.int .i64 xs[j])

/-- A node. -/
structure Nd where
  kind : Int
  num : Int
  name : ByteArray
  more : ByteArray
  into : ByteArray
  kids : List Int
instance : Inhabited Nd := ⟨⟨0, 0, ByteArray.empty, ByteArray.empty, ByteArray.empty, []⟩⟩

/-- A node's cells, in the words of a walk; its kids lie behind a row. -/
structure NdCell (w : World) (a : Addr) (x : Nd) (kv : Value) : Prop where
  c0 : w.cell? a = some (.int .i64 x.kind)
  c1 : w.cell? { block := a.block, off := a.off + 1 } = some (.int .i64 x.num)
  c2 : w.cell? { block := a.block, off := a.off + 2 } = some (.string x.name)
  c3 : w.cell? { block := a.block, off := a.off + 3 } = some (.string x.more)
  c4 : w.cell? { block := a.block, off := a.off + 4 } = some (.string x.into)
  c5 : w.cell? { block := a.block, off := a.off + 5 } = some kv
  kids : IntsAt w kv x.kids

/-- A row of nodes that can be read. -/
def NdsAt (w : World) (v : Value) (xs : List Nd) : Prop :=
  ∃ ao c, v = .slice ao xs.length c ∧ ∀ j (h : j < xs.length), ∃ a kv, ao = some a ∧ a.block < w.heap.size ∧ NdCell w (a.add (j * 6)) xs[j] kv

theorem block_add (a : Addr) (n : Nat) : (a.add n).block = a.block := by simp only [Addr.add]; split <;> rfl

theorem IntsAt.stays {w w' : World} {v : Value} {xs : List Int} (h : IntsAt w v xs) (hb : Below w.heap.size w w') : IntsAt w' v xs := by
  obtain ⟨ao, c, rfl, hc⟩ := h
  refine ⟨ao, c, rfl, fun j hj => ?_⟩
  obtain ⟨a, rfl, ha, hx⟩ := hc j hj
  exact ⟨a, rfl, Nat.lt_of_lt_of_le ha hb.size, (hb.cell (by rw [block_add]; exact ha)).trans hx⟩
theorem NdCell.stays {w w' : World} {a : Addr} {x : Nd} {kv : Value} (h : NdCell w a x kv) (hb : Below w.heap.size w w') (ha : a.block < w.heap.size) : NdCell w' a x kv :=
  ⟨(hb.cell ha).trans h.c0, (hb.cell (p := { block := a.block, off := a.off + 1 }) ha).trans h.c1, (hb.cell (p := { block := a.block, off := a.off + 2 }) ha).trans h.c2, (hb.cell (p := { block := a.block, off := a.off + 3 }) ha).trans h.c3,
    (hb.cell (p := { block := a.block, off := a.off + 4 }) ha).trans h.c4, (hb.cell (p := { block := a.block, off := a.off + 5 }) ha).trans h.c5, h.kids.stays hb⟩
theorem NdsAt.stays {w w' : World} {v : Value} {xs : List Nd} (h : NdsAt w v xs) (hb : Below w.heap.size w w') : NdsAt w' v xs := by
  obtain ⟨ao, c, rfl, hc⟩ := h
  refine ⟨ao, c, rfl, fun j hj => ?_⟩
  obtain ⟨a, kv, rfl, ha, hx⟩ := hc j hj
  exact ⟨a, kv, rfl, Nat.lt_of_lt_of_le ha hb.size, hx.stays hb (by rw [block_add]; exact ha)⟩

/-- A number between two. -/
def inZ (lo hi x : Int) : Bool := decide (lo ≤ x ∧ x ≤ hi)
theorem inZ_yes {lo hi x : Int} : inZ lo hi x = true ↔ lo ≤ x ∧ x ≤ hi := by simp [inZ]
theorem inZ_no {lo hi x : Int} : inZ lo hi x = false ↔ ¬ (lo ≤ x ∧ x ≤ hi) := by rw [inZ, decide_eq_false_iff_not]
/-- How a node's kind is told of a kid. -/
def kidKind (ns : List Nd) (k : Nat) (x : Int) : Int := if inZ 0 ((k : Int) - 1) x then (ns.getD x.toNat default).kind else 0
def valueQ (k : Int) : Bool := inZ 1 5 k
def stmtQ (k : Int) : Bool := inZ 11 19 k
end Go.Proofs.Ytmchgmpdhfefjaa
