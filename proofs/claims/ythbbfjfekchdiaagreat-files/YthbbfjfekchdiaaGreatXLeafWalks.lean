import Derived.Test.YthbbfjfekchdiaaGreatRows
import Derived.WalkKit
import Derived.WalkSpells
import Derived.WalkLawsBesides
namespace Go.Proofs.YthbbfjfekchdiaaGreat
structure Cfg where
  s0 : Int
  k0 : Int
  s1 : Int
  k1 : Int
  s2 : Int
  k2 : Int
  s3 : Int
  k3 : Int
  m : Int
  f : Int
def Cfg.s (c : Cfg) : Nat → Int
  | 0 => c.s0
  | 1 => c.s1
  | 2 => c.s2
  | _ => c.s3
def Cfg.k (c : Cfg) : Nat → Int
  | 0 => c.k0
  | 1 => c.k1
  | 2 => c.k2
  | _ => c.k3
abbrev Cfg.Zero (c : Cfg) (i : Nat) : Prop := c.s i = 0 ∧ c.k i = 0
def Cfg.many (c : Cfg) : Nat :=
  if c.Zero 0 then 0 else if c.Zero 1 then 1 else if c.Zero 2 then 2 else if c.Zero 3 then 3 else 4
theorem Cfg.many_le (c : Cfg) : c.many ≤ 4 := by
  unfold Cfg.many; repeat' split
  all_goals omega
theorem Cfg.many_step (c : Cfg) (k : Nat) (h : k < 4) (hk : k ≤ c.many) : (c.Zero k → c.many = k) ∧ (¬ c.Zero k → k + 1 ≤ c.many) := by
  have h4 : k = 0 ∨ k = 1 ∨ k = 2 ∨ k = 3 := by omega
  revert hk
  unfold Cfg.many
  rcases h4 with rfl | rfl | rfl | rfl <;> (repeat' split) <;> (intro hk; refine ⟨fun z => ?_, fun z => ?_⟩) <;> first | omega | contradiction
abbrev Cfg.Bd (c : Cfg) (i : Nat) : Prop := 1 ≤ c.s i ∧ c.s i ≤ 86400 ∧ 1 ≤ c.k i ∧ c.k i ≤ 60
abbrev Cfg.Ft (c : Cfg) (i : Nat) : Prop := c.s i < c.s (i + 1) ∧ c.s (i + 1) % c.s i = 0 ∧ c.s i * c.k i < c.s (i + 1) * c.k (i + 1) ∧ c.s (i + 1) / c.s i ≤ c.k i
abbrev Cfg.Ones (c : Cfg) (j : Nat) : Prop := ∀ i, i < j → (c.many ≤ i → c.Zero i) ∧ (i < c.many → c.Bd i)
abbrev Cfg.Twos (c : Cfg) (j : Nat) : Prop := ∀ i, i < j → i + 1 < c.many → c.Ft i
abbrev Cfg.Mf (c : Cfg) : Prop := 1 ≤ c.m ∧ c.m ≤ 6 ∧ 0 ≤ c.f ∧ c.f ≤ 100 ∧ 1 ≤ c.many
abbrev Cfg.Ok (c : Cfg) : Prop := c.Mf ∧ c.Ones 4 ∧ c.Twos 3
def Cfg.err (c : Cfg) : Int := if c.Ok then 0 else 2
theorem Cfg.err_ok {c : Cfg} (h : c.Ok) : c.err = 0 := by unfold Cfg.err; rw [if_pos h]
theorem Cfg.err_no {c : Cfg} (h : ¬ c.Ok) : c.err = 2 := by unfold Cfg.err; rw [if_neg h]
theorem Cfg.ones_zero (c : Cfg) : c.Ones 0 := fun i h => absurd h (by omega)
theorem Cfg.twos_zero (c : Cfg) : c.Twos 0 := fun i h => absurd h (by omega)
theorem Cfg.ones_succ {c : Cfg} {j : Nat} (h : c.Ones j) (a : c.many ≤ j → c.Zero j) (b : j < c.many → c.Bd j) : c.Ones (j + 1) := by
  intro i hi
  by_cases e : i = j
  · subst e; exact ⟨a, b⟩
  · exact h i (by omega)
theorem Cfg.twos_succ {c : Cfg} {j : Nat} (h : c.Twos j) (a : j + 1 < c.many → c.Ft j) : c.Twos (j + 1) := by
  intro i hi
  by_cases e : i = j
  · subst e; exact a
  · exact h i (by omega)
theorem Cfg.not_ok_mf {c : Cfg} (h : ¬ c.Mf) : c.err = 2 := c.err_no fun x => h x.1
theorem Cfg.not_ok_zero {c : Cfg} {j : Nat} (h4 : j < 4) (h : c.many ≤ j) (z : ¬ c.Zero j) : c.err = 2 := c.err_no fun x => z ((x.2.1 j h4).1 h)
theorem Cfg.not_ok_bd {c : Cfg} {j : Nat} (h : j < c.many) (z : ¬ c.Bd j) : c.err = 2 := c.err_no fun x => z ((x.2.1 j (by have := c.many_le; omega)).2 h)
theorem Cfg.not_ok_ft {c : Cfg} {j : Nat} (h : j + 1 < c.many) (z : ¬ c.Ft j) : c.err = 2 := c.err_no fun x => z (x.2.2 j (by have := c.many_le; omega) h)
theorem Cfg.is_ok {c : Cfg} (a : c.Mf) (b : c.Ones 4) {j : Nat} (d : c.Twos j) (e : c.many ≤ j + 1) : c.err = 0 :=
  c.err_ok ⟨a, b, fun i _ h => d i (by omega) h⟩
theorem Cfg.prod_bd {c : Cfg} {i : Nat} (h : c.Bd i) : 0 ≤ c.s i * c.k i ∧ c.s i * c.k i ≤ 1000000000 := by
  obtain ⟨a, b, d, e⟩ := h
  constructor
  · exact Int.mul_nonneg (by omega) (by omega)
  · have := Int.mul_le_mul b e (by omega) (by omega); omega
abbrev Cfg.From (c : Cfg) (m n : Nat) : Prop := ∀ i, i < n → (i < m ∨ c.Zero i)
abbrev Cfg.Bds (c : Cfg) (n : Nat) : Prop := ∀ i, i < n → c.Bd i
def zeroB (c : Cfg) (m : Nat) : Bool := decide (c.From m 4)
def bdB (c : Cfg) (n : Nat) : Bool := decide (c.Bds n)
theorem zero_no {c : Cfg} {m i : Nat} (h4 : i < 4) (h : m ≤ i) (z : ¬ c.Zero i) : zeroB c m = false := decide_eq_false fun x => (x i h4).elim (fun a => absurd a (by omega)) z
theorem zero_yes {c : Cfg} {m k : Nat} (h : ∀ i, m ≤ i → i < m + k → c.Zero i) (e : 4 ≤ m + k) : zeroB c m = true := decide_eq_true fun i h4 => if a : i < m then .inl a else .inr (h i (by omega) (by omega))
theorem bd_no {c : Cfg} {n i : Nat} (h : i < n) (z : ¬ c.Bd i) : bdB c n = false := decide_eq_false fun x => z (x i h)
theorem bd_yes {c : Cfg} {n k : Nat} (h : ∀ i, i < k → c.Bd i) (e : n ≤ k) : bdB c n = true := decide_eq_true fun i hi => h i (by omega)
abbrev Cfg.Fts (c : Cfg) (n : Nat) : Prop := ∀ i, i < n → (n ≤ i + 1 ∨ c.Ft i)
def ftB (c : Cfg) (n : Nat) : Bool := decide (c.Fts n)
theorem ft_no {c : Cfg} {n i : Nat} (h : i + 1 < n) (z : ¬ c.Ft i) : ftB c n = false := decide_eq_false fun x => (x i (by omega)).elim (fun a => absurd a (by omega)) z
theorem ft_yes {c : Cfg} {n k : Nat} (h : ∀ i, i + 1 < k → c.Ft i) (e : n ≤ k) : ftB c n = true := decide_eq_true fun i _ => if a : n ≤ i + 1 then .inl a else .inr (h i (by omega))
theorem ft_succ {c : Cfg} {k : Nat} (h : ∀ i, i + 1 < k → c.Ft i) (x : ∀ j, j + 1 = k → c.Ft j) : ∀ i, i + 1 < k + 1 → c.Ft i := by
  intro i hi
  by_cases e : i + 1 = k
  · exact x i e
  · exact h i (by omega)
theorem ft_next {c : Cfg} {j : Nat} (h : ∀ i, i + 1 < j + 1 → c.Ft i) (x : c.Ft j) : ∀ i, i + 1 < j + 1 + 1 → c.Ft i :=
  ft_succ h fun i hi => by
    have e : i = j := by omega
    subst e
    exact x
theorem Cfg.ok_iff (c : Cfg) : c.Ok ↔ ((1 ≤ c.m ∧ c.m ≤ 6) ∧ (0 ≤ c.f ∧ c.f ≤ 100) ∧ 1 ≤ c.many ∧ zeroB c c.many = true ∧ bdB c c.many = true ∧ ftB c c.many = true) := by
  unfold zeroB bdB ftB
  rw [decide_eq_true_iff, decide_eq_true_iff, decide_eq_true_iff]
  have h4 := c.many_le
  constructor
  · rintro ⟨⟨a, b, d, e, f⟩, o, t⟩
    refine ⟨⟨a, b⟩, ⟨d, e⟩, f, fun i hi => ?_, fun i hi => (o i (by omega)).2 hi, fun i hi => ?_⟩
    · by_cases x : i < c.many
      · exact .inl x
      · exact .inr ((o i hi).1 (by omega))
    · by_cases x : c.many ≤ i + 1
      · exact .inl x
      · exact .inr (t i (by omega) (by omega))
  · rintro ⟨⟨a, b⟩, ⟨d, e⟩, f, z, o, t⟩
    refine ⟨⟨a, b, d, e, f⟩, fun i hi => ⟨fun x => (z i hi).elim (fun y => absurd y (by omega)) id, fun x => o i x⟩, fun i _ x => (t i (by omega)).elim (fun y => absurd y (by omega)) id⟩
theorem Cfg.ok_no {c : Cfg} (h : ¬ ((1 ≤ c.m ∧ c.m ≤ 6) ∧ (0 ≤ c.f ∧ c.f ≤ 100) ∧ 1 ≤ c.many ∧ zeroB c c.many = true ∧ bdB c c.many = true ∧ ftB c c.many = true)) : decide c.Ok = false :=
  decide_eq_false fun x => h (c.ok_iff.1 x)
theorem Cfg.ok_yes {c : Cfg} (h : (1 ≤ c.m ∧ c.m ≤ 6) ∧ (0 ≤ c.f ∧ c.f ≤ 100) ∧ 1 ≤ c.many ∧ zeroB c c.many = true ∧ bdB c c.many = true ∧ ftB c c.many = true) : decide c.Ok = true :=
  decide_eq_true (c.ok_iff.2 h)
theorem bdB_all {c : Cfg} {n : Nat} (h : bdB c n = true) : ∀ i, i < n → c.Bd i := of_decide_eq_true h
end Go.Proofs.YthbbfjfekchdiaaGreat
namespace Go.Proofs.YthbbfjfekchdiaaGreat
abbrev Pt := Int × Int
structure RDb where
  c : Cfg
  L : List (List Pt)
def covB (c : Cfg) (i : Nat) (now t : Int) : Bool := decide (t ≤ now) && decide (now - t < c.s i * c.k i)
def firstFrom (c : Cfg) (now t : Int) : Nat → Nat → Option Nat
  | _, 0 => none
  | i, n + 1 => if covB c i now t then some i else firstFrom c now t (i + 1) n
def firstO (c : Cfg) (now t : Int) : Option Nat := firstFrom c now t 0 c.many
def firstI (c : Cfg) (now t : Int) : Int := match firstO c now t with | some i => i | none => -1
def slotOf (c : Cfg) (i : Nat) (t : Int) : Int := t / c.s i % c.k i
def othersL (c : Cfg) (i : Nat) (t : Int) (l : List Pt) : List Pt := l.filter fun q => slotOf c i q.1 != slotOf c i t
def setL (c : Cfg) (i : Nat) (p : Pt) (l : List Pt) : List Pt := othersL c i p.1 l ++ [p]
def hasL (t : Int) (l : List Pt) : Option Pt := l.find? fun q => q.1 == t
abbrev PtIn (p : Pt) : Prop := 0 ≤ p.1 ∧ p.1 ≤ 2147483647 ∧ -1000000000 ≤ p.2 ∧ p.2 ≤ 1000000000
theorem firstFrom_skip {c : Cfg} {now t : Int} : ∀ (k i n : Nat), k ≤ n → (∀ j, i ≤ j → j < i + k → covB c j now t = false) → firstFrom c now t i n = firstFrom c now t (i + k) (n - k)
  | 0, i, n, _, _ => by simp
  | k + 1, i, n, h, hz => by
    obtain ⟨n, rfl⟩ : ∃ n', n = n' + 1 := ⟨n - 1, by omega⟩
    rw [firstFrom, if_neg (by rw [hz i (by omega) (by omega)]; simp), firstFrom_skip k (i + 1) n (by omega) (fun j h1 h2 => hz j (by omega) (by omega))]
    congr 1 <;> omega
theorem firstO_at {c : Cfg} {now t : Int} {k : Nat} (hk : k < c.many) (hz : ∀ j, j < k → covB c j now t = false) (h : covB c k now t = true) : firstO c now t = some k := by
  unfold firstO
  rw [firstFrom_skip k 0 c.many (by omega) (fun j _ h2 => hz j (by omega)), show c.many - k = (c.many - k - 1) + 1 by omega, firstFrom, Nat.zero_add, if_pos h]
theorem firstO_none {c : Cfg} {now t : Int} (hz : ∀ j, j < c.many → covB c j now t = false) : firstO c now t = none := by
  unfold firstO
  rw [firstFrom_skip c.many 0 c.many (Nat.le_refl _) (fun j _ h2 => hz j (by omega)), Nat.sub_self, firstFrom]
theorem firstI_at {c : Cfg} {now t : Int} {k : Nat} (hk : k < c.many) (hz : ∀ j, j < k → covB c j now t = false) (h : covB c k now t = true) : firstI c now t = k := by
  unfold firstI; rw [firstO_at hk hz h]
theorem firstI_none {c : Cfg} {now t : Int} (hz : ∀ j, j < c.many → covB c j now t = false) : firstI c now t = -1 := by
  unfold firstI; rw [firstO_none hz]
end Go.Proofs.YthbbfjfekchdiaaGreat
namespace Go.Proofs.YthbbfjfekchdiaaGreat
open Go.RowKit
theorem hid {p : Prop} (h : p) : Hid p := h
theorem ret_int {k : IntKind} {a b : Int} (h : a = b) : Ending.returned (.int k a) = .returned (.int k b) := by rw [h]
abbrev i64 (n : Int) : Value := .int .i64 n
set_option maxHeartbeats 400000 in
theorem in_any (n lo hi : Int) (w : World) :
    Calls Tryz.prog 38 #[i64 n, i64 lo, i64 hi] w fun e w' => e = .returned (.bool (decide (lo ≤ n) && decide (n ≤ hi))) ∧ w' = w := by
  go_enter Tryz.func38, Tryz.ntmps38
  go_wp2
  all_goals go_ret
  all_goals exact ⟨by simp [*]; try omega, rfl⟩
set_option maxHeartbeats 400000 in
theorem within_any (n lo hi : Int) (w : World) :
    Calls Tryz.prog 73 #[i64 n, i64 lo, i64 hi] w fun e w' => e = .returned (.bool (decide (lo ≤ n) && decide (n ≤ hi))) ∧ w' = w := by
  go_enter Tryz.func73, Tryz.ntmps73
  go_wp2
  all_goals go_ret
  all_goals exact ⟨by simp [*]; try omega, rfl⟩
set_option maxHeartbeats 400000 in
theorem reach_any (s k : Int) (w : World) (h0 : 0 ≤ s * k) (h1 : s * k ≤ 1000000000) :
    Calls Tryz.prog 40 #[.agg #[i64 s, i64 k]] w fun e w' => e = .returned (i64 (s * k)) ∧ Below w.heap.size w w' := by
  go_enter Tryz.func40, Tryz.ntmps40
  go_wp2
  go_ret
  exact ⟨rfl, (Below.refl _ _).alloc (Nat.le_refl _) _⟩
set_option maxHeartbeats 400000 in
theorem creach_any (s k : Int) (w : World) (h0 : 0 ≤ s * k) (h1 : s * k ≤ 1000000000) :
    Calls Tryz.prog 107 #[.agg #[i64 s, i64 k]] w fun e w' => e = .returned (i64 (s * k)) ∧ Below w.heap.size w w' := by
  go_enter Tryz.func107, Tryz.ntmps107
  go_wp2
  go_ret
  exact ⟨rfl, (Below.refl _ _).alloc (Nat.le_refl _) _⟩
theorem reach_val (s k r : Int) (w : World) (h : Hid (r = s * k)) (h0 : 0 ≤ r) (h1 : r ≤ 1000000000) :
    Calls Tryz.prog 40 #[.agg #[i64 s, i64 k]] w fun e w' => e = .returned (i64 r) ∧ Below w.heap.size w w' := by
  have e := h.out; subst e; exact reach_any s k w h0 h1
theorem creach_val (s k r : Int) (w : World) (h : Hid (r = s * k)) (h0 : 0 ≤ r) (h1 : r ≤ 1000000000) :
    Calls Tryz.prog 107 #[.agg #[i64 s, i64 k]] w fun e w' => e = .returned (i64 r) ∧ Below w.heap.size w w' := by
  have e := h.out; subst e; exact creach_any s k w h0 h1
abbrev Cfg.cells (c : Cfg) : Array Value := #[i64 c.s0, i64 c.k0, i64 c.s1, i64 c.k1, i64 c.s2, i64 c.k2, i64 c.s3, i64 c.k3, i64 c.m, i64 c.f]
set_option maxHeartbeats 1000000 in
theorem many_any (c : Cfg) (w : World) :
    Calls Tryz.prog 39 #[.agg c.cells] w fun e w' => e = .returned (i64 c.many) ∧ Below w.heap.size w w' := by
  show Calls Tryz.prog 39 #[.agg #[i64 c.s0, i64 c.k0, i64 c.s1, i64 c.k1, i64 c.s2, i64 c.k2, i64 c.s3, i64 c.k3, i64 c.m, i64 c.f]] w _
  go_enter Tryz.func39, Tryz.ntmps39
  go_wp2
  go_loop [3] (fun n => ∃ k : Nat, k ≤ c.many ∧ n = i64 k) (fun n => 4 - (intOf n).toNat)
  case atStart => exact ⟨0, by omega, rfl⟩
  case round =>
    obtain ⟨k, hk, rfl⟩ := hrel
    have hm := c.many_le
    have h5 : k = 0 ∨ k = 1 ∨ k = 2 ∨ k = 3 ∨ k = 4 := by omega
    rcases h5 with rfl | rfl | rfl | rfl | rfl
    · have HS := hid (c.many_step 0 (by omega) hk)
      go_wp2
      · go_ret; exact ⟨by rw [HS.out.1 ⟨‹_›, ‹_›⟩]; rfl, (Below.refl _ _).alloc (Nat.le_refl _) _⟩
      · go_round
        case rel => exact ⟨1, HS.out.2 (fun h => absurd h.2 ‹_›), rfl⟩
        case measure => simp [intOf]
      · go_round
        case rel => exact ⟨1, HS.out.2 (fun h => absurd h.1 ‹_›), rfl⟩
        case measure => simp [intOf]
    · have HS := hid (c.many_step 1 (by omega) hk)
      go_wp2
      · go_ret; exact ⟨by rw [HS.out.1 ⟨‹_›, ‹_›⟩]; rfl, (Below.refl _ _).alloc (Nat.le_refl _) _⟩
      · go_round
        case rel => exact ⟨2, HS.out.2 (fun h => absurd h.2 ‹_›), rfl⟩
        case measure => simp [intOf]
      · go_round
        case rel => exact ⟨2, HS.out.2 (fun h => absurd h.1 ‹_›), rfl⟩
        case measure => simp [intOf]
    · have HS := hid (c.many_step 2 (by omega) hk)
      go_wp2
      · go_ret; exact ⟨by rw [HS.out.1 ⟨‹_›, ‹_›⟩]; rfl, (Below.refl _ _).alloc (Nat.le_refl _) _⟩
      · go_round
        case rel => exact ⟨3, HS.out.2 (fun h => absurd h.2 ‹_›), rfl⟩
        case measure => simp [intOf]
      · go_round
        case rel => exact ⟨3, HS.out.2 (fun h => absurd h.1 ‹_›), rfl⟩
        case measure => simp [intOf]
    · have HS := hid (c.many_step 3 (by omega) hk)
      go_wp2
      · go_ret; exact ⟨by rw [HS.out.1 ⟨‹_›, ‹_›⟩]; rfl, (Below.refl _ _).alloc (Nat.le_refl _) _⟩
      · go_round
        case rel => exact ⟨4, HS.out.2 (fun h => absurd h.2 ‹_›), rfl⟩
        case measure => simp [intOf]
      · go_round
        case rel => exact ⟨4, HS.out.2 (fun h => absurd h.1 ‹_›), rfl⟩
        case measure => simp [intOf]
    · have e : Hid (c.many = 4) := by show c.many = 4; omega
      go_wp2
      go_ret; exact ⟨by rw [e.out]; rfl, (Below.refl _ _).alloc (Nat.le_refl _) _⟩
end Go.Proofs.YthbbfjfekchdiaaGreat
