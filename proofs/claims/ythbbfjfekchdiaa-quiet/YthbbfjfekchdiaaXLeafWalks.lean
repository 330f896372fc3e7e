import Derived.Test.YthbbfjfekchdiaaRows
import Derived.WalkKit
import Derived.WalkSpells
import Derived.WalkLawsBesides
/-
  Own plain mathematics: configurations as ten integers; how many archives there are; when a configuration may be. No program here.
-/
namespace Go.Proofs.Ythbbfjfekchdiaa

structure Cfg where
  s0 : Int
  k0 : Int
  s1 : Int
  k1 : Int
  s2 : Int
  k2 : Int
  s3 : Int
  k3 : Int
  m : Int
  f : Int

def Cfg.s (c : Cfg) : Nat → Int
  | 0 => c.s0
  | 1 => c.s1
  | 2 => c.s2
  | _ => c.s3
def Cfg.k (c : Cfg) : Nat → Int
  | 0 => c.k0
  | 1 => c.k1
  | 2 => c.k2
  | _ => c.k3

/-- no archive at place i -/
abbrev Cfg.Zero (c : Cfg) (i : Nat) : Prop := c.s i = 0 ∧ c.k i = 0

def Cfg.many (c : Cfg) : Nat :=
  if c.Zero 0 then 0 else if c.Zero 1 then 1 else if c.Zero 2 then 2 else if c.Zero 3 then 3 else 4

theorem Cfg.many_le (c : Cfg) : c.many ≤ 4 := by
  unfold Cfg.many; repeat' split
  all_goals omega

theorem Cfg.many_step (c : Cfg) (k : Nat) (h : k < 4) (hk : k ≤ c.many) : (c.Zero k → c.many = k) ∧ (¬ c.Zero k → k + 1 ≤ c.many) := by
  have h4 : k = 0 ∨ k = 1 ∨ k = 2 ∨ k = 3 := by omega
  revert hk
  unfold Cfg.many
  rcases h4 with rfl | rfl | rfl | rfl <;> (repeat' split) <;> (intro hk; refine ⟨fun z => ?_, fun z => ?_⟩) <;> first | omega | contradiction

theorem Cfg.many_not (c : Cfg) (k : Nat) (h : k < c.many) : ¬ c.Zero k := by
  intro z
  have := c.many_le
  have := (c.many_step k (by omega) (by omega)).1 z
  omega

/-- an archive's numbers are within their bounds -/
abbrev Cfg.Bd (c : Cfg) (i : Nat) : Prop := 1 ≤ c.s i ∧ c.s i ≤ 86400 ∧ 1 ≤ c.k i ∧ c.k i ≤ 60
/-- an archive and the next go together -/
abbrev Cfg.Ft (c : Cfg) (i : Nat) : Prop := c.s i < c.s (i + 1) ∧ c.s (i + 1) % c.s i = 0 ∧ c.s i * c.k i < c.s (i + 1) * c.k (i + 1) ∧ c.s (i + 1) / c.s i ≤ c.k i

/-- of the archives at the first j places: those that are there are within their bounds, none stands behind -/
abbrev Cfg.Ones (c : Cfg) (j : Nat) : Prop := ∀ i, i < j → (c.many ≤ i → c.Zero i) ∧ (i < c.many → c.Bd i)
abbrev Cfg.Twos (c : Cfg) (j : Nat) : Prop := ∀ i, i < j → i + 1 < c.many → c.Ft i

abbrev Cfg.Mf (c : Cfg) : Prop := 1 ≤ c.m ∧ c.m ≤ 6 ∧ 0 ≤ c.f ∧ c.f ≤ 100 ∧ 1 ≤ c.many

abbrev Cfg.Ok (c : Cfg) : Prop := c.Mf ∧ c.Ones 4 ∧ c.Twos 3

/-- the error of Check -/
def Cfg.err (c : Cfg) : Int := if c.Ok then 0 else 2

theorem Cfg.err_ok {c : Cfg} (h : c.Ok) : c.err = 0 := by unfold Cfg.err; rw [if_pos h]
theorem Cfg.err_no {c : Cfg} (h : ¬ c.Ok) : c.err = 2 := by unfold Cfg.err; rw [if_neg h]

theorem Cfg.ones_zero (c : Cfg) : c.Ones 0 := fun i h => absurd h (by omega)
theorem Cfg.twos_zero (c : Cfg) : c.Twos 0 := fun i h => absurd h (by omega)
theorem Cfg.ones_succ {c : Cfg} {j : Nat} (h : c.Ones j) (a : c.many ≤ j → c.Zero j) (b : j < c.many → c.Bd j) : c.Ones (j + 1) := by
  intro i hi
  by_cases e : i = j
  · subst e; exact ⟨a, b⟩
  · exact h i (by omega)
theorem Cfg.twos_succ {c : Cfg} {j : Nat} (h : c.Twos j) (a : j + 1 < c.many → c.Ft j) : c.Twos (j + 1) := by
  intro i hi
  by_cases e : i = j
  · subst e; exact a
  · exact h i (by omega)
theorem Cfg.not_ok_mf {c : Cfg} (h : ¬ c.Mf) : c.err = 2 := c.err_no fun x => h x.1
theorem Cfg.not_ok_zero {c : Cfg} {j : Nat} (h4 : j < 4) (h : c.many ≤ j) (z : ¬ c.Zero j) : c.err = 2 := c.err_no fun x => z ((x.2.1 j h4).1 h)
theorem Cfg.not_ok_bd {c : Cfg} {j : Nat} (h : j < c.many) (z : ¬ c.Bd j) : c.err = 2 := c.err_no fun x => z ((x.2.1 j (by have := c.many_le; omega)).2 h)
theorem Cfg.not_ok_ft {c : Cfg} {j : Nat} (h : j + 1 < c.many) (z : ¬ c.Ft j) : c.err = 2 := c.err_no fun x => z (x.2.2 j (by have := c.many_le; omega) h)
theorem Cfg.is_ok {c : Cfg} (a : c.Mf) (b : c.Ones 4) {j : Nat} (d : c.Twos j) (e : c.many ≤ j + 1) : c.err = 0 :=
  c.err_ok ⟨a, b, fun i _ h => d i (by omega) h⟩
theorem Cfg.prod_bd {c : Cfg} {i : Nat} (h : c.Bd i) : 0 ≤ c.s i * c.k i ∧ c.s i * c.k i ≤ 1000000000 := by
  obtain ⟨a, b, d, e⟩ := h
  constructor
  · exact Int.mul_nonneg (by omega) (by omega)
  · have := Int.mul_le_mul b e (by omega) (by omega); omega

abbrev Cfg.From (c : Cfg) (m n : Nat) : Prop := ∀ i, i < n → (i < m ∨ c.Zero i)
abbrev Cfg.Bds (c : Cfg) (n : Nat) : Prop := ∀ i, i < n → c.Bd i
def zeroB (c : Cfg) (m : Nat) : Bool := decide (c.From m 4)
def bdB (c : Cfg) (n : Nat) : Bool := decide (c.Bds n)

theorem zero_no {c : Cfg} {m i : Nat} (h4 : i < 4) (h : m ≤ i) (z : ¬ c.Zero i) : zeroB c m = false := decide_eq_false fun x => (x i h4).elim (fun a => absurd a (by omega)) z
theorem zero_yes {c : Cfg} {m k : Nat} (h : ∀ i, m ≤ i → i < m + k → c.Zero i) (e : 4 ≤ m + k) : zeroB c m = true := decide_eq_true fun i h4 => if a : i < m then .inl a else .inr (h i (by omega) (by omega))
theorem bd_no {c : Cfg} {n i : Nat} (h : i < n) (z : ¬ c.Bd i) : bdB c n = false := decide_eq_false fun x => z (x i h)
theorem bd_yes {c : Cfg} {n k : Nat} (h : ∀ i, i < k → c.Bd i) (e : n ≤ k) : bdB c n = true := decide_eq_true fun i hi => h i (by omega)
abbrev Cfg.Fts (c : Cfg) (n : Nat) : Prop := ∀ i, i < n → (n ≤ i + 1 ∨ c.Ft i)
def ftB (c : Cfg) (n : Nat) : Bool := decide (c.Fts n)
theorem ft_no {c : Cfg} {n i : Nat} (h : i + 1 < n) (z : ¬ c.Ft i) : ftB c n = false := decide_eq_false fun x => (x i (by omega)).elim (fun a => absurd a (by omega)) z
theorem ft_yes {c : Cfg} {n k : Nat} (h : ∀ i, i + 1 < k → c.Ft i) (e : n ≤ k) : ftB c n = true := decide_eq_true fun i _ => if a : n ≤ i + 1 then .inl a else .inr (h i (by omega))
theorem ft_succ {c : Cfg} {k : Nat} (h : ∀ i, i + 1 < k → c.Ft i) (x : ∀ j, j + 1 = k → c.Ft j) : ∀ i, i + 1 < k + 1 → c.Ft i := by
  intro i hi
  by_cases e : i + 1 = k
  · exact x i e
  · exact h i (by omega)
theorem ft_next {c : Cfg} {j : Nat} (h : ∀ i, i + 1 < j + 1 → c.Ft i) (x : c.Ft j) : ∀ i, i + 1 < j + 1 + 1 → c.Ft i :=
  ft_succ h fun i hi => by
    have e : i = j := by omega
    subst e
    exact x
/-- the program's Good, part by part -/
theorem Cfg.ok_iff (c : Cfg) : c.Ok ↔ ((1 ≤ c.m ∧ c.m ≤ 6) ∧ (0 ≤ c.f ∧ c.f ≤ 100) ∧ 1 ≤ c.many ∧ zeroB c c.many = true ∧ bdB c c.many = true ∧ ftB c c.many = true) := by
  unfold zeroB bdB ftB
  rw [decide_eq_true_iff, decide_eq_true_iff, decide_eq_true_iff]
  have h4 := c.many_le
  constructor
  · rintro ⟨⟨a, b, d, e, f⟩, o, t⟩
    refine ⟨⟨a, b⟩, ⟨d, e⟩, f, fun i hi => ?_, fun i hi => (o i (by omega)).2 hi, fun i hi => ?_⟩
    · by_cases x : i < c.many
      · exact .inl x
      · exact .inr ((o i hi).1 (by omega))
    · by_cases x : c.many ≤ i + 1
      · exact .inl x
      · exact .inr (t i (by omega) (by omega))
  · rintro ⟨⟨a, b⟩, ⟨d, e⟩, f, z, o, t⟩
    refine ⟨⟨a, b, d, e, f⟩, fun i hi => ⟨fun x => (z i hi).elim (fun y => absurd y (by omega)) id, fun x => o i x⟩, fun i _ x => (t i (by omega)).elim (fun y => absurd y (by omega)) id⟩
theorem Cfg.ok_no {c : Cfg} (h : ¬ ((1 ≤ c.m ∧ c.m ≤ 6) ∧ (0 ≤ c.f ∧ c.f ≤ 100) ∧ 1 ≤ c.many ∧ zeroB c c.many = true ∧ bdB c c.many = true ∧ ftB c c.many = true)) : decide c.Ok = false :=
  decide_eq_false fun x => h (c.ok_iff.1 x)
theorem Cfg.ok_yes {c : Cfg} (h : (1 ≤ c.m ∧ c.m ≤ 6) ∧ (0 ≤ c.f ∧ c.f ≤ 100) ∧ 1 ≤ c.many ∧ zeroB c c.many = true ∧ bdB c c.many = true ∧ ftB c c.many = true) : decide c.Ok = true :=
  decide_eq_true (c.ok_iff.2 h)
theorem bdB_all {c : Cfg} {n : Nat} (h : bdB c n = true) : ∀ i, i < n → c.Bd i := of_decide_eq_true h
end Go.Proofs.Ythbbfjfekchdiaa
/-
  Save and Load of the document, as plain mathematics: bytes are numbers from 0 to 255.
-/
namespace Go.Proofs.Ythbbfjfekchdiaa

/-- so many bytes of a number, the highest first -/
def numL : Int → Nat → List Int
  | _, 0 => []
  | n, k + 1 => numL (n / 256) k ++ [n % 256]
def readU (l : List Int) : Int := l.foldl (fun n b => n * 256 + b) 0
/-- eight bytes: two's complement -/
def readN (l : List Int) : Int := if 127 < l.headD 0 ∧ l.length = 8 then readU l - 18446744073709551616 else readU l
def ByteL (l : List Int) : Prop := ∀ b ∈ l, 0 ≤ b ∧ b < 256

theorem numL_len : ∀ (k : Nat) (n : Int), (numL n k).length = k
  | 0, _ => rfl
  | k + 1, n => by rw [numL, List.length_append, numL_len k]; rfl
theorem numL_byte : ∀ (k : Nat) (n : Int), ByteL (numL n k)
  | 0, _ => fun b h => by simp [numL] at h
  | k + 1, n => fun b h => by
    rw [numL] at h
    rcases List.mem_append.1 h with h | h
    · exact numL_byte k _ b h
    · simp at h
      subst h
      exact ⟨Int.emod_nonneg _ (by omega), Int.emod_lt_of_pos _ (by omega)⟩
theorem readU_snoc (l : List Int) (b : Int) : readU (l ++ [b]) = readU l * 256 + b := by
  unfold readU
  rw [List.foldl_append]
  rfl
theorem readU_num : ∀ (k : Nat) (n : Int), readU (numL n k) = n % 256 ^ k
  | 0, n => by simp [numL, readU, Int.emod_one]
  | k + 1, n => by
    rw [numL, readU_snoc, readU_num k]
    have hp : (0 : Int) < 256 ^ k := Int.pow_pos (by omega)
    rw [Int.pow_succ]
    have h1 := Int.mul_ediv_add_emod n 256
    have h2 := Int.mul_ediv_add_emod (n / 256) (256 ^ k)
    have e : n = (256 ^ k * 256) * (n / 256 / 256 ^ k) + (n / 256 % 256 ^ k * 256 + n % 256) := by
      have h3 : (256 ^ k * 256) * (n / 256 / 256 ^ k) = 256 * (256 ^ k * (n / 256 / 256 ^ k)) := by
        rw [Int.mul_comm (256 ^ k) 256, Int.mul_assoc]
      rw [h3]
      omega
    have r0 : 0 ≤ n / 256 % 256 ^ k := Int.emod_nonneg _ (by omega)
    have r1 : n / 256 % 256 ^ k < 256 ^ k := Int.emod_lt_of_pos _ hp
    have q0 : 0 ≤ n % 256 := Int.emod_nonneg _ (by omega)
    have q1 : n % 256 < 256 := Int.emod_lt_of_pos _ (by omega)
    have : n % (256 ^ k * 256) = n / 256 % 256 ^ k * 256 + n % 256 := by
      conv => lhs; rw [e]
      rw [Int.mul_add_emod_self_left]
      exact Int.emod_eq_of_lt (by omega) (by omega)
    omega
theorem snoc_ind {α : Type} {p : List α → Prop} (h0 : p []) (h1 : ∀ (l : List α) (b : α), p l → p (l ++ [b])) (l : List α) : p l := by
  have h : ∀ r : List α, p r.reverse := by
    intro r
    induction r with
    | nil => exact h0
    | cons a r ih => rw [List.reverse_cons]; exact h1 _ _ ih
  have := h l.reverse
  rw [List.reverse_reverse] at this
  exact this
theorem readU_bd {l : List Int} : ByteL l → 0 ≤ readU l ∧ readU l < 256 ^ l.length := by
  refine snoc_ind (p := fun l => ByteL l → 0 ≤ readU l ∧ readU l < 256 ^ l.length) ?_ ?_ l
  · intro _; simp [readU]
  · intro l b ih h
    have hl := ih fun x hx => h x (by simp [hx])
    have hb := h b (by simp)
    rw [readU_snoc, List.length_append, List.length_singleton, Int.pow_succ]
    omega
theorem num_readU {l : List Int} : ByteL l → numL (readU l) l.length = l := by
  refine snoc_ind (p := fun l => ByteL l → numL (readU l) l.length = l) ?_ ?_ l
  · intro _; rfl
  · intro l b ih h
    have hb := h b (by simp)
    rw [readU_snoc, List.length_append, List.length_singleton, numL]
    have e1 : (readU l * 256 + b) / 256 = readU l := by omega
    have e2 : (readU l * 256 + b) % 256 = b := by omega
    rw [e1, e2, ih fun x hx => h x (by simp [hx])]
theorem readU_cons (h : Int) (t : List Int) : readU (h :: t) = h * 256 ^ t.length + readU t := by
  refine snoc_ind (p := fun t => readU (h :: t) = h * 256 ^ t.length + readU t) ?_ ?_ t
  · simp [readU]
  · intro l b ih
    rw [← List.cons_append, readU_snoc, readU_snoc, ih, List.length_append, List.length_singleton, Int.pow_succ, ← Int.mul_assoc, Int.add_mul]
    omega
theorem numL_mod (k : Nat) (n : Int) : numL n k = numL (n % 256 ^ k) k := by
  have h := num_readU (numL_byte k n)
  rw [numL_len, readU_num] at h
  exact h.symm
theorem numL_eq {k : Nat} {n m : Int} (h : n % 256 ^ k = m % 256 ^ k) : numL n k = numL m k := by rw [numL_mod, h, ← numL_mod]
theorem readN_short {l : List Int} (h : l.length ≠ 8) : readN l = readU l := by unfold readN; rw [if_neg (fun x => h x.2)]
theorem head_readU {l : List Int} (hb : ByteL l) (h : l.length = 8) : 127 < l.headD 0 ↔ 9223372036854775808 ≤ readU l := by
  cases l with
  | nil => simp at h
  | cons a t =>
    have ht : t.length = 7 := by simpa using h
    have ha := hb a (by simp)
    have hr := readU_bd (l := t) fun x hx => hb x (by simp [hx])
    rw [readU_cons, List.headD_cons, ht] at *
    have e : (256 : Int) ^ 7 = 72057594037927936 := by decide
    rw [e] at hr ⊢
    omega
theorem readN_num {n : Int} (h0 : -9223372036854775808 ≤ n) (h1 : n < 9223372036854775808) : readN (numL n 8) = n := by
  have hh := head_readU (numL_byte 8 n) (numL_len 8 n)
  have hu := readU_num 8 n
  have e : (256 : Int) ^ 8 = 18446744073709551616 := by decide
  rw [e] at hu
  unfold readN
  by_cases hx : 127 < (numL n 8).headD 0
  · rw [if_pos ⟨hx, numL_len 8 n⟩]
    have := hh.1 hx
    omega
  · rw [if_neg (fun x => hx x.1)]
    have : ¬ 9223372036854775808 ≤ readU (numL n 8) := fun y => hx (hh.2 y)
    omega
theorem readN_bd {l : List Int} (hb : ByteL l) (h : l.length = 8) : -9223372036854775808 ≤ readN l ∧ readN l < 9223372036854775808 := by
  have hh := head_readU hb h
  have hr := readU_bd hb
  rw [h, show (256 : Int) ^ 8 = 18446744073709551616 from by decide] at hr
  unfold readN
  by_cases hx : 127 < l.headD 0
  · rw [if_pos ⟨hx, h⟩]
    have := hh.1 hx
    omega
  · rw [if_neg (fun x => hx x.1)]
    have : ¬ 9223372036854775808 ≤ readU l := fun y => hx (hh.2 y)
    omega
theorem num_readN {l : List Int} (hb : ByteL l) (h : l.length = 8) : numL (readN l) 8 = l := by
  have h1 := num_readU hb
  rw [h] at h1
  unfold readN
  split
  · rw [← h1, numL_eq (n := readU (numL (readU l) 8) - 18446744073709551616) (m := readU l)]
    rw [h1, show (256 : Int) ^ 8 = 18446744073709551616 from by decide]
    omega
  · exact h1

/-- the first byte of eight as a signed number -/
def adjL (l : List Int) : List Int := if 127 < l.headD 0 ∧ l.length = 8 then (l.headD 0 - 256) :: l.tail else l
theorem adjL_len (l : List Int) : (adjL l).length = l.length := by
  unfold adjL
  split
  · rename_i h
    cases l with
    | nil => simp at h
    | cons a t => simp
  · rfl
theorem readN_adj (l : List Int) : readN l = readU (adjL l) := by
  unfold readN adjL
  split
  · rename_i h
    cases l with
    | nil => simp at h
    | cons a t =>
      have ht : t.length = 7 := by have := h.2; simpa using this
      rw [List.headD_cons, List.tail_cons, readU_cons, readU_cons, ht, show (256 : Int) ^ 7 = 72057594037927936 from by decide]
      omega
  · rfl
theorem readU_take {l : List Int} {m : Nat} {b : Int} (h : l[m]? = some b) : readU (l.take (m + 1)) = readU (l.take m) * 256 + b := by
  rw [List.take_add_one, h]
  exact readU_snoc _ _
theorem adj_bd {l : List Int} (hb : ByteL l) (hl : l.length ≤ 8) {m : Nat} (hm : m < l.length) : -36028797018963968 ≤ readU ((adjL l).take m) ∧ readU ((adjL l).take m) ≤ 36028797018963967 := by
  cases l with
  | nil => simp at hm
  | cons a t =>
    have ha := hb a (by simp)
    have hbt : ∀ k, ByteL (t.take k) := fun k x hx => hb x (by simp [List.mem_of_mem_take hx])
    rcases m with _ | m
    · simp [readU]
    · have ht := readU_bd (hbt m)
      have hlen : (t.take m).length = m := by rw [List.length_take]; simp at hm; omega
      rw [hlen] at ht
      have hm7 : m < t.length := by simpa using hm
      have ht7 : t.length ≤ 7 := by simpa using hl
      have key : ∀ a', (a' :: t).take (m + 1) = a' :: t.take m := fun _ => rfl
      have h6 : m = 0 ∨ m = 1 ∨ m = 2 ∨ m = 3 ∨ m = 4 ∨ m = 5 ∨ m = 6 := by omega
      unfold adjL
      split
      · rename_i h
        rw [List.headD_cons, List.tail_cons, key, readU_cons, hlen]
        have := h.1
        rw [List.headD_cons] at this
        rcases h6 with rfl | rfl | rfl | rfl | rfl | rfl | rfl <;> simp only [show (256 : Int) ^ 0 = 1 from by decide, show (256 : Int) ^ 1 = 256 from by decide, show (256 : Int) ^ 2 = 65536 from by decide, show (256 : Int) ^ 3 = 16777216 from by decide, show (256 : Int) ^ 4 = 4294967296 from by decide, show (256 : Int) ^ 5 = 1099511627776 from by decide, show (256 : Int) ^ 6 = 281474976710656 from by decide] at ht ⊢ <;> omega
      · rename_i h
        rw [key, readU_cons, hlen]
        have hx : m < 6 ∨ a ≤ 127 := by
          by_cases h8 : t.length = 7
          · exact .inr (Int.not_lt.1 fun y => h ⟨by rw [List.headD_cons]; exact y, by simp [h8]⟩)
          · exact .inl (by omega)
        rcases h6 with rfl | rfl | rfl | rfl | rfl | rfl | rfl <;> simp only [show (256 : Int) ^ 0 = 1 from by decide, show (256 : Int) ^ 1 = 256 from by decide, show (256 : Int) ^ 2 = 65536 from by decide, show (256 : Int) ^ 3 = 16777216 from by decide, show (256 : Int) ^ 4 = 4294967296 from by decide, show (256 : Int) ^ 5 = 1099511627776 from by decide, show (256 : Int) ^ 6 = 281474976710656 from by decide] at ht ⊢ <;> omega
end Go.Proofs.Ythbbfjfekchdiaa
/-
  The document's database as plain data: a configuration, and by archive the points that it has, in the order of their writing.
-/
namespace Go.Proofs.Ythbbfjfekchdiaa

abbrev Pt := Int × Int
structure RDb where
  c : Cfg
  L : List (List Pt)

def covB (c : Cfg) (i : Nat) (now t : Int) : Bool := decide (t ≤ now) && decide (now - t < c.s i * c.k i)
/-- the first archive from place i on, of n, that covers -/
def firstFrom (c : Cfg) (now t : Int) : Nat → Nat → Option Nat
  | _, 0 => none
  | i, n + 1 => if covB c i now t then some i else firstFrom c now t (i + 1) n
def firstO (c : Cfg) (now t : Int) : Option Nat := firstFrom c now t 0 c.many
def firstI (c : Cfg) (now t : Int) : Int := match firstO c now t with | some i => i | none => -1

def slotOf (c : Cfg) (i : Nat) (t : Int) : Int := t / c.s i % c.k i
def othersL (c : Cfg) (i : Nat) (t : Int) (l : List Pt) : List Pt := l.filter fun q => slotOf c i q.1 != slotOf c i t
def setL (c : Cfg) (i : Nat) (p : Pt) (l : List Pt) : List Pt := othersL c i p.1 l ++ [p]
def hasL (t : Int) (l : List Pt) : Option Pt := l.find? fun q => q.1 == t
/-- a point's numbers are within their bounds -/
abbrev PtIn (p : Pt) : Prop := 0 ≤ p.1 ∧ p.1 ≤ 2147483647 ∧ -1000000000 ≤ p.2 ∧ p.2 ≤ 1000000000

theorem firstFrom_skip {c : Cfg} {now t : Int} : ∀ (k i n : Nat), k ≤ n → (∀ j, i ≤ j → j < i + k → covB c j now t = false) → firstFrom c now t i n = firstFrom c now t (i + k) (n - k)
  | 0, i, n, _, _ => by simp
  | k + 1, i, n, h, hz => by
    obtain ⟨n, rfl⟩ : ∃ n', n = n' + 1 := ⟨n - 1, by omega⟩
    rw [firstFrom, if_neg (by rw [hz i (by omega) (by omega)]; simp), firstFrom_skip k (i + 1) n (by omega) (fun j h1 h2 => hz j (by omega) (by omega))]
    congr 1 <;> omega
theorem firstO_at {c : Cfg} {now t : Int} {k : Nat} (hk : k < c.many) (hz : ∀ j, j < k → covB c j now t = false) (h : covB c k now t = true) : firstO c now t = some k := by
  unfold firstO
  rw [firstFrom_skip k 0 c.many (by omega) (fun j _ h2 => hz j (by omega)), show c.many - k = (c.many - k - 1) + 1 by omega, firstFrom, Nat.zero_add, if_pos h]
theorem firstO_none {c : Cfg} {now t : Int} (hz : ∀ j, j < c.many → covB c j now t = false) : firstO c now t = none := by
  unfold firstO
  rw [firstFrom_skip c.many 0 c.many (Nat.le_refl _) (fun j _ h2 => hz j (by omega)), Nat.sub_self, firstFrom]
theorem firstI_at {c : Cfg} {now t : Int} {k : Nat} (hk : k < c.many) (hz : ∀ j, j < k → covB c j now t = false) (h : covB c k now t = true) : firstI c now t = k := by
  unfold firstI; rw [firstO_at hk hz h]
theorem firstI_none {c : Cfg} {now t : Int} (hz : ∀ j, j < c.many → covB c j now t = false) : firstI c now t = -1 := by
  unfold firstI; rw [firstO_none hz]
end Go.Proofs.Ythbbfjfekchdiaa
namespace Go.Proofs.Ythbbfjfekchdiaa
open Go.RowKit

theorem hid {p : Prop} (h : p) : Hid p := h
theorem ret_int {k : IntKind} {a b : Int} (h : a = b) : Ending.returned (.int k a) = .returned (.int k b) := by rw [h]
abbrev i64 (n : Int) : Value := .int .i64 n

set_option maxHeartbeats 400000 in
theorem within_any (n lo hi : Int) (w : World) :
    Calls Try.prog 65 #[i64 n, i64 lo, i64 hi] w fun e w' => e = .returned (.bool (decide (lo ≤ n) && decide (n ≤ hi))) ∧ w' = w := by
  go_enter Try.func65, Try.ntmps65
  go_wp2
  all_goals go_ret
  all_goals exact ⟨by simp [*]; try omega, rfl⟩

set_option maxHeartbeats 400000 in
theorem creach_any (s k : Int) (w : World) (h0 : 0 ≤ s * k) (h1 : s * k ≤ 1000000000) :
    Calls Try.prog 85 #[.agg #[i64 s, i64 k]] w fun e w' => e = .returned (i64 (s * k)) ∧ Below w.heap.size w w' := by
  go_enter Try.func85, Try.ntmps85
  go_wp2
  go_ret
  exact ⟨rfl, (Below.refl _ _).alloc (Nat.le_refl _) _⟩


theorem creach_val (s k r : Int) (w : World) (h : Hid (r = s * k)) (h0 : 0 ≤ r) (h1 : r ≤ 1000000000) :
    Calls Try.prog 85 #[.agg #[i64 s, i64 k]] w fun e w' => e = .returned (i64 r) ∧ Below w.heap.size w w' := by
  have e := h.out; subst e; exact creach_any s k w h0 h1

/-- a configuration's ten cells -/
abbrev Cfg.cells (c : Cfg) : Array Value := #[i64 c.s0, i64 c.k0, i64 c.s1, i64 c.k1, i64 c.s2, i64 c.k2, i64 c.s3, i64 c.k3, i64 c.m, i64 c.f]

end Go.Proofs.Ythbbfjfekchdiaa
