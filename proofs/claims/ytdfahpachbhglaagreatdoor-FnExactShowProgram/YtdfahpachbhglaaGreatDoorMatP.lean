/-
  The first of a list that is of a kind: its place, as a function of the list.
-/
import Derived.Test.YtdfahpachbhglaaGreatDoorAidCard
import Derived.Shelf.LaysM
import Derived.Shelf.Strconv.Itoa3
import Derived.Test.YtdfahpachbhglaaGreatDoorChecked
import Derived.Test.YtdfahpachbhglaaGreatDoorShowN
import Derived.Lib.SmallJoins
import Derived.Lib.AppendIntMem
import Derived.Test.YtdfahpachbhglaaGreatDoorShwA
import Derived.Test.YtdfahpachbhglaaGreatDoorShowB
import Derived.Test.YtdfahpachbhglaaGreatDoorImpA
import Derived.Handy
namespace Go.Proofs.YtdfahpachbhglaaGreatDoor
open Go.RowKit

/-- The place of the first that is so; -1 without one. -/
def firstAt {α : Type} (f : α → Bool) (xs : List α) : Int := match xs.findIdx? f with
  | some i => (i : Int)
  | none => -1
theorem first_hit {α : Type} {f : α → Bool} {xs : List α} {i : Nat} (hi : i < xs.length) (h : ∀ j (hj : j < xs.length), j < i → f xs[j] = false) (hx : f xs[i] = true) : firstAt f xs = (i : Int) := by
  have e : xs.findIdx? f = some i := List.findIdx?_eq_some_iff_getElem.2 ⟨hi, hx, fun j hj => by rw [h j (by omega) hj]; exact Bool.noConfusion⟩
  rw [firstAt, e]
theorem first_none {α : Type} {f : α → Bool} {xs : List α} (h : ∀ j (hj : j < xs.length), f xs[j] = false) : firstAt f xs = -1 := by
  have e : xs.findIdx? f = none := List.findIdx?_eq_none_iff.2 (fun x hx => by
    obtain ⟨j, hj, rfl⟩ := List.getElem_of_mem hx
    exact h j hj)
  rw [firstAt, e]
theorem first_le {α : Type} (f : α → Bool) (xs : List α) : -1 ≤ firstAt f xs ∧ firstAt f xs < (xs.length : Int) := by
  rw [firstAt]
  split
  · rename_i i e
    have := (List.findIdx?_eq_some_iff_getElem.1 e).1
    omega
  · omega
/-- What a search has seen so far. -/
def NoneTo {α : Type} (f : α → Bool) (xs : List α) (i : Nat) : Prop := ∀ j (hj : j < xs.length), j < i → f xs[j] = false
theorem NoneTo.zero {α : Type} (f : α → Bool) (xs : List α) : NoneTo f xs 0 := fun _ _ h => absurd h (Nat.not_lt_zero _)
theorem NoneTo.step {α : Type} {f : α → Bool} {xs : List α} {i : Nat} (h : NoneTo f xs i) (hx : ∀ hi : i < xs.length, f xs[i] = false) : NoneTo f xs (i + 1) := fun j hj hji => by
  by_cases e : j = i
  · subst e; exact hx hj
  · exact h j hj (by omega)
def monN (name : ByteArray) (m : Mo) : Bool := decide (m.name = name)
def entN (name : ByteArray) (m : En) : Bool := decide (m.name = name)
def SchR {α : Type} (w : World) (f : α → Bool) (xs : List α) (iv : Value) (wr : World) : Prop := ∃ i : Nat, i ≤ xs.length ∧ iv = .int .i64 i ∧ Hid (Below w.heap.size w wr) ∧ Hid (NoneTo f xs i)
theorem NoneTo.hit {α : Type} {f : α → Bool} {xs : List α} {i : Nat} (h : NoneTo f xs i) (hi : i < xs.length) (hx : f xs[i] = true) : firstAt f xs = (i : Int) := first_hit hi h hx
theorem NoneTo.none {α : Type} {f : α → Bool} {xs : List α} {i : Nat} (h : NoneTo f xs i) (hi : xs.length ≤ i) : firstAt f xs = -1 := first_none fun j hj => h j hj (by omega)
/-- A value that is a slice. -/
def SlV (v : Value) : Prop := ∃ o n c, v = .slice o n c
theorem StrsAt.sl {w : World} {v : Value} {xs : List ByteArray} (h : StrsAt w v xs) : SlV v := by obtain ⟨a, c, e, _⟩ := h; exact ⟨_, _, _, e⟩
theorem NdsAt.sl {w : World} {v : Value} {xs : List Nd} (h : NdsAt w v xs) : SlV v := by obtain ⟨a, c, e, _⟩ := h; exact ⟨_, _, _, e⟩
theorem PrsAt.sl {w : World} {v : Value} {xs : List Pr} (h : PrsAt w v xs) : SlV v := by obtain ⟨a, c, e, _⟩ := h; exact ⟨_, _, _, e⟩
end Go.Proofs.YtdfahpachbhglaaGreatDoor

namespace Go.Proofs.YtdfahpachbhglaaGreatDoor
open Go.Shelf
def Tryz.laysM171_ren : Go.Shelf.Ren := ⟨fun | 171 => 111 | 243 => 112 | 246 => 113 | 283 => 114 | 284 => 115 | 285 => 116 | 286 => 117 | 129 => 119 | 317 => 118 | 318 => 120 | 319 => 121 | 320 => 122 | 337 => 123 | 338 => 124 | n => n, fun | 3 => 3 | 9 => 9 | 2 => 2 | 4 => 4 | 171 => 174 | 0 => 0 | 53 => 175 | 37 => 57 | 5 => 5 | 173 => 178 | 212 => 181 | 51 => 182 | 20 => 20 | 213 => 183 | 46 => 184 | 232 => 187 | 233 => 188 | n => n, fun | 17 => 1 | 18 => 2 | 19 => 3 | n => n⟩
theorem Tryz.laysM171 : Go.Proofs.LaysM.n171 Tryz.prog Tryz.laysM171_ren := {
  mixed := by kernel_rfl
  f129 := Tryz.func119.trans (congrArg some (by kernel_rfl))
  f171 := Tryz.func111.trans (congrArg some (by kernel_rfl))
  f243 := Tryz.func112.trans (congrArg some (by kernel_rfl))
  f246 := Tryz.func113.trans (congrArg some (by kernel_rfl))
  f283 := Tryz.func114.trans (congrArg some (by kernel_rfl))
  f284 := Tryz.func115.trans (congrArg some (by kernel_rfl))
  f285 := Tryz.func116.trans (congrArg some (by kernel_rfl))
  f286 := Tryz.func117.trans (congrArg some (by kernel_rfl))
  f317 := Tryz.func118.trans (congrArg some (by kernel_rfl))
  f318 := Tryz.func120.trans (congrArg some (by kernel_rfl))
  f319 := Tryz.func121.trans (congrArg some (by kernel_rfl))
  f320 := Tryz.func122.trans (congrArg some (by kernel_rfl))
  f337 := Tryz.func123.trans (congrArg some (by kernel_rfl))
  f338 := Tryz.func124.trans (congrArg some (by kernel_rfl))
  t0 := Tryz.underlying0
  a0 := Tryz.isAgg0
  z0 := Tryz.sizeOf0
  v0 := Tryz.zeroValue0
  t2 := Tryz.underlying2
  a2 := Tryz.isAgg2
  z2 := Tryz.sizeOf2
  v2 := Tryz.zeroValue2
  t3 := Tryz.underlying3
  a3 := Tryz.isAgg3
  z3 := Tryz.sizeOf3
  v3 := Tryz.zeroValue3
  t4 := Tryz.underlying4
  a4 := Tryz.isAgg4
  z4 := Tryz.sizeOf4
  v4 := Tryz.zeroValue4
  t5 := Tryz.underlying5
  a5 := Tryz.isAgg5
  z5 := Tryz.sizeOf5
  v5 := Tryz.zeroValue5
  t9 := Tryz.underlying9
  a9 := Tryz.isAgg9
  z9 := Tryz.sizeOf9
  v9 := Tryz.zeroValue9
  t20 := Tryz.underlying20
  a20 := Tryz.isAgg20
  z20 := Tryz.sizeOf20
  v20 := Tryz.zeroValue20
  t37 := Tryz.underlying57
  a37 := Tryz.isAgg57
  z37 := Tryz.sizeOf57
  v37 := Tryz.zeroValue57
  t46 := Tryz.underlying184
  a46 := Tryz.isAgg184
  z46 := Tryz.sizeOf184
  v46 := Tryz.zeroValue184
  t51 := Tryz.underlying182
  a51 := Tryz.isAgg182
  z51 := Tryz.sizeOf182
  v51 := Tryz.zeroValue182
  t53 := Tryz.underlying175
  a53 := Tryz.isAgg175
  z53 := Tryz.sizeOf175
  v53 := Tryz.zeroValue175
  t171 := Tryz.underlying174
  a171 := Tryz.isAgg174
  z171 := Tryz.sizeOf174
  v171 := Tryz.zeroValue174
  t173 := Tryz.underlying178
  a173 := Tryz.isAgg178
  z173 := Tryz.sizeOf178
  v173 := Tryz.zeroValue178
  t212 := Tryz.underlying181
  a212 := Tryz.isAgg181
  z212 := Tryz.sizeOf181
  v212 := Tryz.zeroValue181
  t213 := Tryz.underlying183
  a213 := Tryz.isAgg183
  z213 := Tryz.sizeOf183
  t232 := Tryz.underlying187
  a232 := Tryz.isAgg187
  z232 := Tryz.sizeOf187
  v232 := Tryz.zeroValue187
  t233 := Tryz.underlying188
  a233 := Tryz.isAgg188
  z233 := Tryz.sizeOf188
  v233 := Tryz.zeroValue188
  g17 := by kernel_rfl
  g18 := by kernel_rfl
  g19 := by kernel_rfl
  i0 := by kernel_rfl
  i2 := by kernel_rfl
  i3 := by kernel_rfl
  i4 := by kernel_rfl
  i5 := by kernel_rfl
  i9 := by kernel_rfl
  i20 := by kernel_rfl
  i37 := by kernel_rfl
  i46 := by kernel_rfl
  i51 := by kernel_rfl
  i53 := by kernel_rfl
  i171 := by kernel_rfl
  i173 := by kernel_rfl
  i212 := by kernel_rfl
  i232 := by kernel_rfl
  i233 := by kernel_rfl
  m17 := by kernel_rfl
  m18 := by kernel_rfl
  m19 := by kernel_rfl }
open Go.RowKit Go.Sort Go.Lib in
theorem Tryz.strconv_Itoa (n : Int) (h0 : -9223372036854775808 ≤ n) (h1 : n ≤ 9223372036854775807) (w : World) (htab : Lib.TabIs Tryz.prog w "internal/strconv.uint64pow10" .u64 Lib.pow10Tab) :
    Calls Tryz.prog 111 #[.int .i64 n] w fun e w' => e = .returned (.string ⟨(Lib.itoa n).toArray⟩) ∧ ∃ k os, w' = grow (w.drewN k) os := Any.strconv_Itoa Tryz.laysM171 n h0 h1 w htab
end Go.Proofs.YtdfahpachbhglaaGreatDoor

namespace Go.Proofs.YtdfahpachbhglaaGreatDoor
open Go.RowKit

theorem decR_digits (n : Nat) : 0 < n → (decR n).map (fun c => UInt8.ofNat c.toNat) = Lib.decDigits n := by
  induction n using Nat.strongRecOn with
  | _ n ih =>
    intro h
    rw [decR_pos h, List.map_append, Lib.decDigits]
    split
    · have e : n / 10 = 0 := by omega
      have e2 : n % 10 = n := by omega
      rw [e, decR_zero, e2]
      rfl
    · rw [ih (n / 10) (by omega) (by omega)]
      rfl
theorem itoa_eq (n : Int) : (⟨(Lib.itoa n).toArray⟩ : ByteArray) = strOfNums (decI n) := by
  unfold strOfNums
  congr 2
  unfold Lib.itoa
  split
  · rename_i h
    rw [decI_neg h, List.map_cons, decR_digits _ (by omega)]
    rfl
  · rename_i h
    rcases Int.lt_or_eq_of_le (Int.not_lt.1 h) with h0 | h0
    · rw [decI_pos h0, decR_digits _ (by omega)]
      congr 1
      omega
    · subst h0
      rw [decI_zero]
      show Lib.decDigits 0 = _
      rw [Lib.decDigits, dif_pos (by omega)]
      rfl

theorem gPow : Tryz.prog.globalNamed "internal/strconv.uint64pow10" = some 1 := by kernel_rfl

theorem implDecimal_any (n : Int) (w : World) (h0 : -9223372036854775808 ≤ n) (h1 : n ≤ 9223372036854775807) (htab : Lib.TabIs Tryz.prog w "internal/strconv.uint64pow10" .u64 Lib.pow10Tab) :
    Calls Tryz.prog 109 #[.int .i64 n] w fun e w' => e = .returned (.string (strOfNums (decI n))) ∧ Below w.heap.size w w' := by
  rw [← itoa_eq]
  go_enter Tryz.func109, Tryz.ntmps109
  go_wp2_with (go_at_call 111; refine (Tryz.strconv_Itoa _ h0 h1 _ htab).mono ?_; rintro e w1 ⟨rfl, k, os, rfl⟩)
  go_ret
  exact ⟨rfl, Lib.below_grow _ _ (Nat.le_refl _) _ _⟩

theorem specDecimal_all (n : Int) (w : World) (h0 : -9223372036854775808 ≤ n) (h1 : n ≤ 9223372036854775807) : Calls Tryz.prog 76 #[.int .i64 n] w fun e w' => e = .returned (.string (strOfNums (decI n))) ∧ Below w.heap.size w w' := by
  rcases Int.lt_trichotomy n 0 with h | h | h
  · rw [decI_neg h]
    have e : n = -((n.natAbs : Nat) : Int) := by omega
    rw [show (#[Value.int IntKind.i64 n] : Array Value) = #[.int .i64 (-((n.natAbs : Nat) : Int))] by rw [← e]]
    exact specDecimal_neg n.natAbs w (by omega) (by omega)
  · subst h; exact specDecimal_zero w
  · rw [decI_pos h]
    have e : n = ((n.natAbs : Nat) : Int) := by omega
    rw [show (#[Value.int IntKind.i64 n] : Array Value) = #[.int .i64 ((n.natAbs : Nat) : Int)] by rw [← e]]
    exact specDecimal_pos n.natAbs w (by omega) (by omega)

end Go.Proofs.YtdfahpachbhglaaGreatDoor

namespace Go.Proofs.YtdfahpachbhglaaGreatDoor
open Go.RowKit

/-- What was there when the showing began. -/
structure ShE (W0 : World) (nv mv pv : Value) (ns : List Nd) : Prop where
  nds : NdsAt W0 nv ns
  smv : SlV mv
  spv : SlV pv
  ops : OpsAt W0
  opl : 0 < W0.heap.size
  tab : Lib.TabIs Tryz.prog W0 "internal/strconv.uint64pow10" .u64 Lib.pow10Tab
  tbl : 1 < W0.heap.size
structure ShP (W0 : World) (g : Nat) (nv mv pv : Value) (l : List ByteArray) (w : World) : Prop where
  st : ShT W0.heap.size g nv mv pv l w
  bel : Below W0.heap.size W0 w
theorem ShP.stays {W0 : World} {g : Nat} {nv mv pv : Value} {l : List ByteArray} {w w' : World} (h : ShP W0 g nv mv pv l w) (hb : Below w.heap.size w w') : ShP W0 g nv mv pv l w' := ⟨h.st.stays hb, h.bel.trans (hb.mono h.bel.size)⟩
def ShQ (W0 : World) (g : Nat) (nv mv pv : Value) (l : List ByteArray) (w : World) (e : Ending) (w' : World) : Prop := e = .returned (.tuple #[]) ∧ ShP W0 g nv mv pv l w' ∧ ShK W0.heap.size g w w'
/-- What a function of the shower on a place writes. -/
def ShF (W0 : World) (g : Nat) (nv mv pv : Value) (F : Nat) (k : Int) (s : List ByteArray) : Prop := ∀ l w, ShP W0 g nv mv pv l w → Calls Tryz.prog F #[.pointer (some ⟨g, 0, none⟩), .int .i64 k] w (ShQ W0 g nv mv pv (l ++ s) w)
theorem ShP.two {W0 : World} {g : Nat} {nv mv pv : Value} {l : List ByteArray} {w : World} (h : ShP W0 g nv mv pv l w) :
    (∃ t, ShI W0.heap.size g nv mv pv (Lib.strCells t) true w ∧ t.size ≤ 1500 ∧ 1500 < (foldJ l).size) ∨ (∃ t, ShI W0.heap.size g nv mv pv (Lib.strCells t) false w ∧ t.size ≤ 1500) := by
  obtain ⟨⟨t, f, h1, h2, h3, h4⟩, _⟩ := h
  cases f with
  | true => exact .inl ⟨t, h1, h2, h4 rfl⟩
  | false => exact .inr ⟨t, h1, h2⟩
theorem ShP.more {W0 : World} {g : Nat} {nv mv pv : Value} {l : List ByteArray} {w z : World} {t : ByteArray} (s : List ByteArray) (h : ShP W0 g nv mv pv l w) (h1 : ShI W0.heap.size g nv mv pv (Lib.strCells t) true w) (h2 : t.size ≤ 1500) (h3 : 1500 < (foldJ l).size) (hb : Below w.heap.size w z) :
    ShQ W0 g nv mv pv (l ++ s) w (.returned (.tuple #[])) (z.setCell ⟨g, 6, none⟩ (.bool true)) := by
  obtain ⟨q1, q2⟩ := ShT.fail (h1.stays hb) h2 (Nat.lt_of_lt_of_le h3 (foldJ_le l s))
  have k := (ShK.of (g := g) hb h.bel.size).trans q2
  exact ⟨rfl, ⟨q1, h.bel.trans k.1⟩, k⟩
theorem ShQ.from {W0 : World} {g : Nat} {nv mv pv : Value} {l : List ByteArray} {w z w' : World} {e : Ending} (hb : Below w.heap.size w z) (hB : W0.heap.size ≤ w.heap.size) (h : ShQ W0 g nv mv pv l z e w') : ShQ W0 g nv mv pv l w e w' := ⟨h.1, h.2.1, (ShK.of hb hB).trans h.2.2⟩
theorem shP1 {W0 : World} {g c b : Nat} {nv mv pv : Value} {l : List ByteArray} {x : ByteArray} (w : World) (hb : b = w.heap.size) (h : ShP W0 g nv mv pv l w) (hx : ∀ y ∈ [x], y.size ≤ 1048576) :
    Calls Tryz.prog 43 #[.pointer (some ⟨g, 0, none⟩), .slice (some ⟨b, 0, none⟩) 1 c] (w.alloc (.cells #[.string x] 9)) (ShQ W0 g nv mv pv (l ++ [x]) w) := by
  subst hb
  exact (shSigns1 _ g c nv mv pv l x w h.st hx h.bel.size).mono fun _ _ ⟨h1, h2, h3⟩ => ⟨h1, ⟨h2, h.bel.trans h3.1⟩, h3⟩
theorem shP2 {W0 : World} {g c b : Nat} {nv mv pv : Value} {l : List ByteArray} {x y : ByteArray} (w : World) (hb : b = w.heap.size) (h : ShP W0 g nv mv pv l w) (hx : ∀ z ∈ [x, y], z.size ≤ 1048576) :
    Calls Tryz.prog 43 #[.pointer (some ⟨g, 0, none⟩), .slice (some ⟨b, 0, none⟩) 2 c] (w.alloc (.cells #[.string x, .string y] 9)) (ShQ W0 g nv mv pv (l ++ [x, y]) w) := by
  subst hb
  exact (shSigns2 _ g c nv mv pv l x y w h.st hx h.bel.size).mono fun _ _ ⟨h1, h2, h3⟩ => ⟨h1, ⟨h2, h.bel.trans h3.1⟩, h3⟩
theorem shP3 {W0 : World} {g c b : Nat} {nv mv pv : Value} {l : List ByteArray} {x y z : ByteArray} (w : World) (hb : b = w.heap.size) (h : ShP W0 g nv mv pv l w) (hx : ∀ q ∈ [x, y, z], q.size ≤ 1048576) :
    Calls Tryz.prog 43 #[.pointer (some ⟨g, 0, none⟩), .slice (some ⟨b, 0, none⟩) 3 c] (w.alloc (.cells #[.string x, .string y, .string z] 9)) (ShQ W0 g nv mv pv (l ++ [x, y, z]) w) := by
  subst hb
  exact (shSigns3 _ g c nv mv pv l x y z w h.st hx h.bel.size).mono fun _ _ ⟨h1, h2, h3⟩ => ⟨h1, ⟨h2, h.bel.trans h3.1⟩, h3⟩
theorem shP5 {W0 : World} {g c b : Nat} {nv mv pv : Value} {l : List ByteArray} {x y z p q : ByteArray} (w : World) (hb : b = w.heap.size) (h : ShP W0 g nv mv pv l w) (hx : ∀ t ∈ [x, y, z, p, q], t.size ≤ 1048576) :
    Calls Tryz.prog 43 #[.pointer (some ⟨g, 0, none⟩), .slice (some ⟨b, 0, none⟩) 5 c] (w.alloc (.cells #[.string x, .string y, .string z, .string p, .string q] 9)) (ShQ W0 g nv mv pv (l ++ [x, y, z, p, q]) w) := by
  subst hb
  exact (shSigns5 _ g c nv mv pv l x y z p q w h.st hx h.bel.size).mono fun _ _ ⟨h1, h2, h3⟩ => ⟨h1, ⟨h2, h.bel.trans h3.1⟩, h3⟩

/-- A kid that is a value, one that is a block. -/
structure KidV (ns : List Nd) (dp : Nat → Nat) (d m : Nat) : Prop where
  lt : m < ns.length
  deep : dp m ≤ d
  kind : valueQ (ns.getD m default).kind = true
structure KidB (ns : List Nd) (dp : Nat → Nat) (d m : Nat) : Prop where
  lt : m < ns.length
  deep : dp m ≤ d
  kind : (ns.getD m default).kind = 20
structure KidS (ns : List Nd) (dp : Nat → Nat) (d m : Nat) : Prop where
  lt : m < ns.length
  deep : dp m ≤ d
  kind : stmtQ (ns.getD m default).kind = true
/-- What is known of a value. -/
theorem nf_value {ns : List Nd} {dp : Nat → Nat} (hR : RightT ns dp) {d k : Nat} (hk : k < ns.length) (hd : dp k ≤ d + 1) {x : Nd} (ex : ns.getD k default = x) (hv : valueQ x.kind = true) :
    (x.kind = 1 ∧ 0 ≤ x.num ∧ x.num ≤ 1000000 ∧ shS ns (d + 1) k = [strOfNums (decI x.num)]) ∨ (x.kind = 2 ∧ x.name.size ≤ 8 ∧ shS ns (d + 1) k = [x.name]) ∨
    (x.kind = 3 ∧ ∃ m n o : Nat, x.kids = [(m : Int), (n : Int)] ∧ KidV ns dp d m ∧ KidV ns dp d n ∧ x.num = (o : Int) ∧ 1 ≤ o ∧ o ≤ 9 ∧ shS ns (d + 1) k = tx "(" :: (shS ns d m ++ opSign (o : Int) :: (shS ns d n ++ [tx ")"]))) ∨
    (x.kind = 4 ∧ ∃ m : Nat, x.kids = [(m : Int)] ∧ KidV ns dp d m ∧ shS ns (d + 1) k = tx "not" :: shS ns d m) ∨ (x.kind = 5 ∧ ∃ m : Nat, x.kids = [(m : Int)] ∧ KidV ns dp d m ∧ shS ns (d + 1) k = tx "-" :: shS ns d m) := by
  have hnode := hR.node k hk
  have hkid := hR.kid k hk
  have hKO := kids_of hnode (by rw [kinds, List.length_map])
  have hsh : shS ns (d + 1) k = signsN x (fun i => shS ns d (kidN x i)) (x.kids.map fun y => shS ns d y.toNat) := by rw [shS, ex]
  have hkin : kinds ns k = x.kids.map (kidKind ns k) := by rw [kinds, ex]
  rw [ex] at hnode hkid hKO
  have hft := facts_of hnode
  have hkid2 : ∀ y ∈ x.kids, ∃ m : Nat, y = (m : Int) ∧ m < ns.length ∧ dp m ≤ d := fun y hy => by
    obtain ⟨a1, a2, a3⟩ := hkid y hy
    exact ⟨y.toNat, by omega, by omega, by omega⟩
  have hone : (x.kind = 4 ∨ x.kind = 5) → ∃ m : Nat, x.kids = [(m : Int)] ∧ KidV ns dp d m := fun hq => by
    obtain ⟨y, hy⟩ := one_of (hKO.2.1 (by omega))
    obtain ⟨m, rfl, hm1, hm2⟩ := hkid2 y (by rw [hy]; exact List.mem_cons_self)
    have h9 := hkid (m : Int) (by rw [hy]; exact List.mem_cons_self)
    exact ⟨m, hy, hm1, hm2, kid_value hkin hnode hy ⟨by omega, h9.2.1⟩ (by omega)⟩
  have hkd : x.kind = 1 ∨ x.kind = 2 ∨ x.kind = 3 ∨ x.kind = 4 ∨ x.kind = 5 := by
    simp only [valueQ, inZ, decide_eq_true_eq] at hv
    omega
  rcases hkd with h | h | h | h | h
  · refine .inl ⟨h, ?_⟩
    have hn := hnode
    simp only [nodeB, Bool.and_eq_true, inZ, decide_eq_true_eq] at hn
    have := hn.2
    rw [if_pos h] at this
    simp only [decide_eq_true_eq] at this
    exact ⟨this.1, this.2, by rw [hsh, signsN, if_pos h]⟩
  · refine .inr (.inl ⟨h, hft.1 (by rw [h]; decide), ?_⟩)
    rw [hsh, signsN, if_neg (by omega), if_pos h]
  · refine .inr (.inr (.inl ⟨h, ?_⟩))
    obtain ⟨y, y2, hy⟩ := two_of (hKO.1 h)
    obtain ⟨m, rfl, hm1, hm2⟩ := hkid2 y (by rw [hy]; exact List.mem_cons_self)
    obtain ⟨n, rfl, hn1, hn2⟩ := hkid2 y2 (by rw [hy]; exact List.mem_cons_of_mem _ List.mem_cons_self)
    have h9 := hkid (m : Int) (by rw [hy]; exact List.mem_cons_self)
    have h8 := hkid (n : Int) (by rw [hy]; exact List.mem_cons_of_mem _ List.mem_cons_self)
    have hq := kid_values hkin hnode hy ⟨by omega, h9.2.1⟩ ⟨by omega, h8.2.1⟩ h
    have hn := hnode
    simp only [nodeB, Bool.and_eq_true, inZ, decide_eq_true_eq] at hn
    have hnum := hn.2
    rw [if_neg (by omega), if_pos h] at hnum
    simp only [decide_eq_true_eq] at hnum
    refine ⟨m, n, x.num.toNat, hy, ⟨hm1, hm2, hq.1⟩, ⟨hn1, hn2, hq.2⟩, by omega, by omega, by omega, ?_⟩
    rw [hsh, signsN, if_neg (by omega), if_neg (by omega), if_pos h, kidN, kidN, hy, show ((x.num.toNat : Nat) : Int) = x.num by omega]
    rfl
  · refine .inr (.inr (.inr (.inl ⟨h, ?_⟩)))
    obtain ⟨m, hy, hm⟩ := hone (by omega)
    refine ⟨m, hy, hm, ?_⟩
    rw [hsh, signsN, if_neg (by omega), if_neg (by omega), if_neg (by omega), if_pos h, kidN, hy]
    rfl
  · refine .inr (.inr (.inr (.inr ⟨h, ?_⟩)))
    obtain ⟨m, hy, hm⟩ := hone (by omega)
    refine ⟨m, hy, hm, ?_⟩
    rw [hsh, signsN, if_neg (by omega), if_neg (by omega), if_neg (by omega), if_neg (by omega), if_pos h, kidN, hy]
    rfl
end Go.Proofs.YtdfahpachbhglaaGreatDoor

namespace Go.Proofs.YtdfahpachbhglaaGreatDoor
open Go.RowKit

set_option maxHeartbeats 2000000 in
theorem typedAt_on {mv pv : Value} {ns : List Nd} (x : Nd) (k : Nat) (kv : Value) (p : Addr) (a : Addr) (c : Nat) (w : World) (hk : k < ns.length) (hN : NdsAt w (.slice (some a) ns.length c) ns)
    (hp : a.add (k * 6) = p) (hx : NdCell w p x kv) :
    Calls Tryz.prog 103 #[.agg #[.slice (some a) ns.length c, mv, pv], .int .i64 (k : Int)] w fun e w' => e = .returned (typedV x.kind x.num x.name x.more x.into kv x.kids) ∧ Below w.heap.size w w' := by
  have CH := fun W h => hide (has_any (.slice (some a) ns.length c) mv pv ns (k : Int) W h)
  have e1 : inZ 0 ((ns.length : Int) - 1) (k : Int) = true := inZ_yes.2 (by omega)
  rw [e1] at CH
  have hk0 : (0 : Int) ≤ (k : Int) := by omega
  have hk' : (k : Int) < (ns.length : Int) := by omega
  have hb1 : Below w.heap.size w (w.alloc (.cells #[.slice (some a) ns.length c, mv, pv] 34)) := (Below.refl _ _).alloc (Nat.le_refl _) _
  have HN := hide (hN.stays hb1)
  have HX := hide (hx.stays hb1 (World.block_lt_of_cell? _ _ hx.c0))
  have BX := hide (Box.made w #[.slice (some a) ns.length c, mv, pv] 34)
  have HB := hide hb1
  clear hN hx e1 hb1
  obtain ⟨W, hW⟩ : ∃ W, w.alloc (.cells #[.slice (some a) ns.length c, mv, pv] 34) = W := ⟨_, rfl⟩
  have HW := hide hW
  rw [hW] at HN HX BX HB
  clear hW
  have q0 := Lib.cell_of_heap BX.out 0
  have q1 := Lib.cell_of_heap BX.out 1
  have q2 := Lib.cell_of_heap BX.out 2
  simp at q0 q1 q2
  go_enter Tryz.func103, Tryz.ntmps103
  go_wp2_with fail
  rw [HW.out]
  refine (unhide (CH _ HN.out)).mono ?_
  rintro e w2 ⟨rfl, hb2⟩
  have HB2 := hide (HB.out.trans (hb2.mono HB.out.size))
  have BX2 := hide (BX.out.stays hb2)
  have hx2 := HX.out.stays hb2 (World.block_lt_of_cell? _ _ HX.out.c0)
  clear q0 q1 q2 CH HB BX
  have q0 := Lib.cell_of_heap BX2.out 0
  simp at q0
  have CT := hide (typed_any x.kind x.num x.name x.more x.into kv x.kids w2 hx2.kids)
  obtain ⟨d0, d1, d2, d3, d4, d5, dk⟩ := hx2
  obtain ⟨ko, kc, rfl, _⟩ := dk
  clear hb2
  go_wp2_with fail
  refine (unhide CT).mono ?_
  rintro e w3 ⟨rfl, hb3⟩
  have HB3 := hide (HB2.out.trans (hb3.mono HB2.out.size))
  clear hb3
  go_wp2
  go_ret
  exact ⟨rfl, HB3.out⟩
end Go.Proofs.YtdfahpachbhglaaGreatDoor
