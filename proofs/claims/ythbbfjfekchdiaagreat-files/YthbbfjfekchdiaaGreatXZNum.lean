import Derived.Test.YthbbfjfekchdiaaGreatXLeafWalks
import Derived.Test.YthbbfjfekchdiaaGreatXRWrites
import Derived.Laws.BitsLemmas
namespace Go.Proofs.YthbbfjfekchdiaaGreat
def numL : Int → Nat → List Int
  | _, 0 => []
  | n, k + 1 => numL (n / 256) k ++ [n % 256]
def readU (l : List Int) : Int := l.foldl (fun n b => n * 256 + b) 0
def readN (l : List Int) : Int := if 127 < l.headD 0 ∧ l.length = 8 then readU l - 18446744073709551616 else readU l
def ByteL (l : List Int) : Prop := ∀ b ∈ l, 0 ≤ b ∧ b < 256
theorem numL_len : ∀ (k : Nat) (n : Int), (numL n k).length = k
  | 0, _ => rfl
  | k + 1, n => by rw [numL, List.length_append, numL_len k]; rfl
theorem numL_byte : ∀ (k : Nat) (n : Int), ByteL (numL n k)
  | 0, _ => fun b h => by simp [numL] at h
  | k + 1, n => fun b h => by
    rw [numL] at h
    rcases List.mem_append.1 h with h | h
    · exact numL_byte k _ b h
    · simp at h
      subst h
      exact ⟨Int.emod_nonneg _ (by omega), Int.emod_lt_of_pos _ (by omega)⟩
theorem readU_snoc (l : List Int) (b : Int) : readU (l ++ [b]) = readU l * 256 + b := by
  unfold readU
  rw [List.foldl_append]
  rfl
theorem readU_num : ∀ (k : Nat) (n : Int), readU (numL n k) = n % 256 ^ k
  | 0, n => by simp [numL, readU, Int.emod_one]
  | k + 1, n => by
    rw [numL, readU_snoc, readU_num k]
    have hp : (0 : Int) < 256 ^ k := Int.pow_pos (by omega)
    rw [Int.pow_succ]
    have h1 := Int.mul_ediv_add_emod n 256
    have h2 := Int.mul_ediv_add_emod (n / 256) (256 ^ k)
    have e : n = (256 ^ k * 256) * (n / 256 / 256 ^ k) + (n / 256 % 256 ^ k * 256 + n % 256) := by
      have h3 : (256 ^ k * 256) * (n / 256 / 256 ^ k) = 256 * (256 ^ k * (n / 256 / 256 ^ k)) := by
        rw [Int.mul_comm (256 ^ k) 256, Int.mul_assoc]
      rw [h3]
      omega
    have r0 : 0 ≤ n / 256 % 256 ^ k := Int.emod_nonneg _ (by omega)
    have r1 : n / 256 % 256 ^ k < 256 ^ k := Int.emod_lt_of_pos _ hp
    have q0 : 0 ≤ n % 256 := Int.emod_nonneg _ (by omega)
    have q1 : n % 256 < 256 := Int.emod_lt_of_pos _ (by omega)
    have : n % (256 ^ k * 256) = n / 256 % 256 ^ k * 256 + n % 256 := by
      conv => lhs; rw [e]
      rw [Int.mul_add_emod_self_left]
      exact Int.emod_eq_of_lt (by omega) (by omega)
    omega
theorem snoc_ind {α : Type} {p : List α → Prop} (h0 : p []) (h1 : ∀ (l : List α) (b : α), p l → p (l ++ [b])) (l : List α) : p l := by
  have h : ∀ r : List α, p r.reverse := by
    intro r
    induction r with
    | nil => exact h0
    | cons a r ih => rw [List.reverse_cons]; exact h1 _ _ ih
  have := h l.reverse
  rw [List.reverse_reverse] at this
  exact this
theorem readU_bd {l : List Int} : ByteL l → 0 ≤ readU l ∧ readU l < 256 ^ l.length := by
  refine snoc_ind (p := fun l => ByteL l → 0 ≤ readU l ∧ readU l < 256 ^ l.length) ?_ ?_ l
  · intro _; simp [readU]
  · intro l b ih h
    have hl := ih fun x hx => h x (by simp [hx])
    have hb := h b (by simp)
    rw [readU_snoc, List.length_append, List.length_singleton, Int.pow_succ]
    omega
theorem num_readU {l : List Int} : ByteL l → numL (readU l) l.length = l := by
  refine snoc_ind (p := fun l => ByteL l → numL (readU l) l.length = l) ?_ ?_ l
  · intro _; rfl
  · intro l b ih h
    have hb := h b (by simp)
    rw [readU_snoc, List.length_append, List.length_singleton, numL]
    have e1 : (readU l * 256 + b) / 256 = readU l := by omega
    have e2 : (readU l * 256 + b) % 256 = b := by omega
    rw [e1, e2, ih fun x hx => h x (by simp [hx])]
theorem readU_cons (h : Int) (t : List Int) : readU (h :: t) = h * 256 ^ t.length + readU t := by
  refine snoc_ind (p := fun t => readU (h :: t) = h * 256 ^ t.length + readU t) ?_ ?_ t
  · simp [readU]
  · intro l b ih
    rw [← List.cons_append, readU_snoc, readU_snoc, ih, List.length_append, List.length_singleton, Int.pow_succ, ← Int.mul_assoc, Int.add_mul]
    omega
theorem numL_mod (k : Nat) (n : Int) : numL n k = numL (n % 256 ^ k) k := by
  have h := num_readU (numL_byte k n)
  rw [numL_len, readU_num] at h
  exact h.symm
theorem numL_eq {k : Nat} {n m : Int} (h : n % 256 ^ k = m % 256 ^ k) : numL n k = numL m k := by rw [numL_mod, h, ← numL_mod]
theorem readN_short {l : List Int} (h : l.length ≠ 8) : readN l = readU l := by unfold readN; rw [if_neg (fun x => h x.2)]
theorem head_readU {l : List Int} (hb : ByteL l) (h : l.length = 8) : 127 < l.headD 0 ↔ 9223372036854775808 ≤ readU l := by
  cases l with
  | nil => simp at h
  | cons a t =>
    have ht : t.length = 7 := by simpa using h
    have ha := hb a (by simp)
    have hr := readU_bd (l := t) fun x hx => hb x (by simp [hx])
    rw [readU_cons, List.headD_cons, ht] at *
    have e : (256 : Int) ^ 7 = 72057594037927936 := by decide
    rw [e] at hr ⊢
    omega
theorem readN_num {n : Int} (h0 : -9223372036854775808 ≤ n) (h1 : n < 9223372036854775808) : readN (numL n 8) = n := by
  have hh := head_readU (numL_byte 8 n) (numL_len 8 n)
  have hu := readU_num 8 n
  have e : (256 : Int) ^ 8 = 18446744073709551616 := by decide
  rw [e] at hu
  unfold readN
  by_cases hx : 127 < (numL n 8).headD 0
  · rw [if_pos ⟨hx, numL_len 8 n⟩]
    have := hh.1 hx
    omega
  · rw [if_neg (fun x => hx x.1)]
    have : ¬ 9223372036854775808 ≤ readU (numL n 8) := fun y => hx (hh.2 y)
    omega
theorem num_readN {l : List Int} (hb : ByteL l) (h : l.length = 8) : numL (readN l) 8 = l := by
  have h1 := num_readU hb
  rw [h] at h1
  unfold readN
  split
  · rw [← h1, numL_eq (n := readU (numL (readU l) 8) - 18446744073709551616) (m := readU l)]
    rw [h1, show (256 : Int) ^ 8 = 18446744073709551616 from by decide]
    omega
  · exact h1
def adjL (l : List Int) : List Int := if 127 < l.headD 0 ∧ l.length = 8 then (l.headD 0 - 256) :: l.tail else l
theorem adjL_len (l : List Int) : (adjL l).length = l.length := by
  unfold adjL
  split
  · rename_i h
    cases l with
    | nil => simp at h
    | cons a t => simp
  · rfl
theorem readN_adj (l : List Int) : readN l = readU (adjL l) := by
  unfold readN adjL
  split
  · rename_i h
    cases l with
    | nil => simp at h
    | cons a t =>
      have ht : t.length = 7 := by have := h.2; simpa using this
      rw [List.headD_cons, List.tail_cons, readU_cons, readU_cons, ht, show (256 : Int) ^ 7 = 72057594037927936 from by decide]
      omega
  · rfl
theorem readU_take {l : List Int} {m : Nat} {b : Int} (h : l[m]? = some b) : readU (l.take (m + 1)) = readU (l.take m) * 256 + b := by
  rw [List.take_add_one, h]
  exact readU_snoc _ _
theorem adj_bd {l : List Int} (hb : ByteL l) (hl : l.length ≤ 8) {m : Nat} (hm : m < l.length) : -36028797018963968 ≤ readU ((adjL l).take m) ∧ readU ((adjL l).take m) ≤ 36028797018963967 := by
  cases l with
  | nil => simp at hm
  | cons a t =>
    have ha := hb a (by simp)
    have hbt : ∀ k, ByteL (t.take k) := fun k x hx => hb x (by simp [List.mem_of_mem_take hx])
    rcases m with _ | m
    · simp [readU]
    · have ht := readU_bd (hbt m)
      have hlen : (t.take m).length = m := by rw [List.length_take]; simp at hm; omega
      rw [hlen] at ht
      have hm7 : m < t.length := by simpa using hm
      have ht7 : t.length ≤ 7 := by simpa using hl
      have key : ∀ a', (a' :: t).take (m + 1) = a' :: t.take m := fun _ => rfl
      have h6 : m = 0 ∨ m = 1 ∨ m = 2 ∨ m = 3 ∨ m = 4 ∨ m = 5 ∨ m = 6 := by omega
      unfold adjL
      split
      · rename_i h
        rw [List.headD_cons, List.tail_cons, key, readU_cons, hlen]
        have := h.1
        rw [List.headD_cons] at this
        rcases h6 with rfl | rfl | rfl | rfl | rfl | rfl | rfl <;> simp only [show (256 : Int) ^ 0 = 1 from by decide, show (256 : Int) ^ 1 = 256 from by decide, show (256 : Int) ^ 2 = 65536 from by decide, show (256 : Int) ^ 3 = 16777216 from by decide, show (256 : Int) ^ 4 = 4294967296 from by decide, show (256 : Int) ^ 5 = 1099511627776 from by decide, show (256 : Int) ^ 6 = 281474976710656 from by decide] at ht ⊢ <;> omega
      · rename_i h
        rw [key, readU_cons, hlen]
        have hx : m < 6 ∨ a ≤ 127 := by
          by_cases h8 : t.length = 7
          · exact .inr (Int.not_lt.1 fun y => h ⟨by rw [List.headD_cons]; exact y, by simp [h8]⟩)
          · exact .inl (by omega)
        rcases h6 with rfl | rfl | rfl | rfl | rfl | rfl | rfl <;> simp only [show (256 : Int) ^ 0 = 1 from by decide, show (256 : Int) ^ 1 = 256 from by decide, show (256 : Int) ^ 2 = 65536 from by decide, show (256 : Int) ^ 3 = 16777216 from by decide, show (256 : Int) ^ 4 = 4294967296 from by decide, show (256 : Int) ^ 5 = 1099511627776 from by decide, show (256 : Int) ^ 6 = 281474976710656 from by decide] at ht ⊢ <;> omega
end Go.Proofs.YthbbfjfekchdiaaGreat
namespace Go.Proofs.YthbbfjfekchdiaaGreat
open Go.RowKit
set_option linter.unusedSimpArgs false
def bs (l : List Int) : List Value := l.map fun b => .int .u8 b
theorem bs_len (l : List Int) : (bs l).length = l.length := by unfold bs; rw [List.length_map]
theorem bs_app (l m : List Int) : bs (l ++ m) = bs l ++ bs m := by unfold bs; rw [List.map_append]
theorem bs_one (l : List Int) : ∀ u ∈ bs l, u.oneCell' = true := by
  intro u hu
  unfold bs at hu
  obtain ⟨b, _, rfl⟩ := List.mem_map.1 hu
  rfl
theorem or_low (x y : Int) (hx : x % 256 = 0) (hy0 : 0 ≤ y) (hy1 : y < 256) : bits .or .i64 x y = IntKind.i64.wrap (x + y) := by
  obtain ⟨b, rfl⟩ := Int.eq_ofNat_of_zero_le hy0
  obtain ⟨a, ha⟩ : ∃ a : Nat, x % 18446744073709551616 = (a : Int) := Int.eq_ofNat_of_zero_le (Int.emod_nonneg _ (by omega))
  have h1 : (BitVec.ofInt 64 x).toNat = a := by
    rw [BitVec.toNat_ofInt]
    have : x % ((2 ^ 64 : Nat) : Int) = (a : Int) := ha
    rw [this]
    rfl
  have h2 : (BitVec.ofInt 64 (b : Int)).toNat = b := by
    rw [BitVec.ofInt_natCast, BitVec.toNat_ofNat]; exact Nat.mod_eq_of_lt (by omega)
  show IntKind.i64.wrap ((BitVec.ofInt 64 x ||| BitVec.ofInt 64 (b : Int)).toNat : Int) = _
  have hd : a % 256 = 0 := by omega
  have hq : a = 2 ^ 8 * (a / 2 ^ 8) := by omega
  have ho : a ||| b = a + b := by
    have := Nat.two_pow_add_eq_or_of_lt (i := 8) (b := b) (by omega) (a / 2 ^ 8)
    rw [← hq] at this
    exact this.symm
  rw [BitVec.toNat_or, h1, h2, ho, IntKind.wrap_i64, IntKind.wrap_i64]
  omega
theorem mul_low (r : Int) : wrap64 (r * 256) % 256 = 0 := by
  unfold wrap64
  omega
theorem wrap_step (r x : Int) : IntKind.i64.wrap (wrap64 (wrap64 r * 256) + x) = IntKind.i64.wrap (r * 256 + x) := by
  simp only [IntKind.wrap_i64]
  unfold wrap64
  omega
theorem readN_wrap {l : List Int} (hb : ByteL l) (hn : l.length ≤ 8) : readN l = IntKind.i64.wrap (readU l) := by
  rw [IntKind.wrap_i64]
  obtain ⟨r0, r1⟩ := readU_bd hb
  by_cases h8 : l.length = 8
  · have hh := head_readU hb h8
    rw [h8, show (256 : Int) ^ 8 = 18446744073709551616 from by decide] at r1
    unfold readN
    by_cases hx : 127 < l.headD 0
    · rw [if_pos ⟨hx, h8⟩]
      have := hh.1 hx
      omega
    · rw [if_neg (fun x => hx x.1)]
      have : ¬ 9223372036854775808 ≤ readU l := fun y => hx (hh.2 y)
      omega
  · rw [readN_short h8]
    have : (256 : Int) ^ l.length ≤ 256 ^ 7 := by
      have h7 : l.length = 0 ∨ l.length = 1 ∨ l.length = 2 ∨ l.length = 3 ∨ l.length = 4 ∨ l.length = 5 ∨ l.length = 6 ∨ l.length = 7 := by omega
      rcases h7 with e | e | e | e | e | e | e | e <;> rw [e] <;> decide
    rw [show (256 : Int) ^ 7 = 72057594037927936 from by decide] at this
    omega
theorem numL_add : ∀ (m a : Nat) (x : Int), numL x (a + m) = numL (x / 256 ^ m) a ++ numL x m
  | 0, a, x => by simp [numL]
  | m + 1, a, x => by
    show numL (x / 256) (a + m) ++ [x % 256] = numL (x / 256 ^ (m + 1)) a ++ (numL (x / 256) m ++ [x % 256])
    rw [numL_add m a (x / 256), ← List.append_assoc, Int.pow_succ, Int.mul_comm, ← Int.ediv_ediv_of_nonneg (by omega)]
theorem numL_front (m : Nat) (x : Int) : numL x (m + 1) = (x / 256 ^ m % 256) :: numL x m := by
  rw [Nat.add_comm, numL_add m 1 x]
  rfl
def wrTo (A X C : List Value) (x : Int) (n m : Nat) : List Value := A ++ (X.take (n - m) ++ (bs (numL x m) ++ C))
theorem wrTo_zero {A X C : List Value} {x : Int} {n : Nat} (h : X.length = n) : wrTo A X C x n 0 = A ++ (X ++ C) := by
  unfold wrTo
  rw [Nat.sub_zero, List.take_of_length_le (by omega)]
  rfl
theorem wrTo_all {A X C : List Value} {x : Int} {n : Nat} : wrTo A X C x n n = A ++ (bs (numL x n) ++ C) := by
  unfold wrTo
  rw [Nat.sub_self]
  rfl
theorem wrTo_len {A X C : List Value} {x : Int} {n m : Nat} (h : X.length = n) (hm : m ≤ n) : (wrTo A X C x n m).length = A.length + n + C.length := by
  unfold wrTo
  rw [List.length_append, List.length_append, List.length_append, List.length_take, bs_len, numL_len]
  omega
theorem wrTo_succ {A X C : List Value} {x : Int} {n m : Nat} (h : X.length = n) (hm : m < n) : (wrTo A X C x n m).set (A.length + (n - m - 1)) (.int .u8 (x / 256 ^ m % 256)) = wrTo A X C x n (m + 1) := by
  unfold wrTo
  rw [List.set_append_right _ _ (by omega), Nat.add_sub_cancel_left]
  congr 1
  obtain ⟨k, hk⟩ : ∃ k, n - m = k + 1 := ⟨n - m - 1, by omega⟩
  obtain ⟨y, hy⟩ : ∃ y, X[k]? = some y := ⟨_, List.getElem?_eq_getElem (by omega)⟩
  have hl : (X.take k).length = k := by rw [List.length_take]; omega
  rw [hk, show n - (m + 1) = k by omega, Nat.add_sub_cancel, List.take_add_one, hy, List.append_assoc, List.set_append_right _ _ (by omega), hl, Nat.sub_self, numL_front]
  rfl
set_option maxHeartbeats 1000000 in
theorem write_num (b t cap : Nat) (A X C : List Value) (x : Int) (n : Nat) (w : World) (hb : w.heap[b]? = some (.cells (A ++ (X ++ C)).toArray t)) (hx : X.length = n) (hn : n ≤ 8) :
    Calls Tryz.prog 84 #[.slice (some ⟨b, A.length, none⟩) n cap, i64 x] w fun e w' => e = .returned (.tuple #[]) ∧ w'.heap[b]? = some (.cells (A ++ (bs (numL x n) ++ C)).toArray t) ∧ Fr (fun k => k = b) w w' ∧ w'.heap.size = w.heap.size := by
  have HB := hid hb
  have HX := hid hx
  clear hb hx
  go_enter Tryz.func84, Tryz.ntmps84
  go_wp2
  go_loopw [1, 4] (fun x' i' wr => ∃ m : Nat, m ≤ n ∧ x' = i64 (x / 256 ^ m) ∧ i' = i64 ((n : Int) - 1 - m) ∧ wr.heap[b]? = some (.cells (wrTo A X C x n m).toArray t) ∧ Fr (fun k => k = b) w wr ∧ wr.heap.size = w.heap.size) (fun _ i' _ => (intOf i' + 1).toNat)
  case atStart => exact ⟨0, by omega, by simp, by simp, by rw [wrTo_zero HX.out]; exact HB.out, Fr.refl _ _, rfl⟩
  case round =>
    obtain ⟨m, hm, rfl, rfl, hwb, hwf, hws⟩ := hrel
    have HWB := hid hwb
    have HWF := hid hwf
    have HWS := hid hws
    by_cases hlt : m < n
    · obtain ⟨y, hy⟩ : ∃ y, y = x / 256 ^ m := ⟨_, rfl⟩
      obtain ⟨k, hk⟩ : ∃ k, n = m + 1 + k := ⟨n - m - 1, by omega⟩
      have e : (n : Int) - 1 - m = (k : Int) := by omega
      have HY := hid hy
      have hb2 : b < wr.heap.size := blk_lt hwb
      obtain ⟨v0, hv0⟩ : ∃ v, wr.cell? ⟨b, A.length + k, none⟩ = some v := by
        rw [cell_of_blk hwb]
        exact ⟨_, Array.getElem?_eq_getElem (by simp only [List.size_toArray]; rw [wrTo_len HX.out hm]; omega)⟩
      have f0 : wr.frozen? ⟨b, A.length + k, none⟩ = false := frozen_of_blk hwb _
      have k0 : (0 : Int) ≤ (k : Int) := by omega
      have k1 : (k : Int) < (n : Int) := by omega
      have HN := hid (show (wr.setCell ⟨b, A.length + k, none⟩ (.int .u8 (y % 256))).heap[b]? = some (.cells (wrTo A X C x n (m + 1)).toArray t) ∧ Fr (fun k => k = b) w (wr.setCell ⟨b, A.length + k, none⟩ (.int .u8 (y % 256))) ∧ (wr.setCell ⟨b, A.length + k, none⟩ (.int .u8 (y % 256))).heap.size = w.heap.size by
        refine ⟨?_, HWF.out.setCell rfl _ _, (size_setCell _ _ _).trans HWS.out⟩
        rw [blk_setCell HWB.out, ← wrTo_succ HX.out hlt, HY.out, show n - m - 1 = k by omega]
        simp)
      have HD := hid (show y / 256 = x / 256 ^ (m + 1) by rw [HY.out, Int.pow_succ, Int.ediv_ediv_of_nonneg (Int.le_of_lt (Int.pow_pos (by omega)))])
      have yb : y.fdiv 256 = y / 256 := Int.fdiv_eq_ediv_of_nonneg _ (by omega)
      rw [← hy, e]
      clear hwb hwf hws hy hk
      go_wp2
      refine ⟨⟨m + 1, by omega, by rw [HD.out], by rw [show (n : Int) - 1 - (m + 1 : Nat) = (k : Int) - 1 by omega], HN.out⟩, by simp [intOf]⟩
    · clear hwb hwf hws
      have em : m = n := by omega
      subst em
      rw [wrTo_all] at HWB
      go_wp2
      go_end0
      exact ⟨rfl, HWB.out, HWF.out, HWS.out⟩
set_option maxHeartbeats 1000000 in
theorem read_num (b o cap : Nat) (l : List Int) (w : World) (hl : ∀ j v, (bs l)[j]? = some v → w.cell? ⟨b, o + j, none⟩ = some v) (hb : ByteL l) (hn : l.length ≤ 8) (hn1 : 1 ≤ l.length) :
    Calls Tryz.prog 95 #[.slice (some ⟨b, o, none⟩) l.length cap] w fun e w' => e = .returned (i64 (readN l)) ∧ w' = w := by
  have HL := hid hl
  have HB := hid hb
  clear hl hb
  go_enter Tryz.func95, Tryz.ntmps95
  go_wp2
  go_loop [3, 8] (fun x' i' => ∃ k : Nat, k ≤ l.length ∧ i' = i64 k ∧ x' = i64 (IntKind.i64.wrap (readU (l.take k)))) (fun _ i' => l.length - (intOf i').toNat)
  case atStart => exact ⟨0, by omega, rfl, rfl⟩
  case round =>
    obtain ⟨k, hk, rfl, rfl⟩ := hrel
    by_cases hlt : k < l.length
    · obtain ⟨x, hx⟩ : ∃ x, l[k]? = some x := ⟨_, List.getElem?_eq_getElem hlt⟩
      have c0 : w.cell? ⟨b, o + k, none⟩ = some (.int .u8 x) := HL.out k _ (by unfold bs; rw [List.getElem?_map, hx]; rfl)
      obtain ⟨x0, x1⟩ := HB.out x (List.mem_iff_getElem?.2 ⟨k, hx⟩)
      have hbz : b < w.heap.size := World.block_lt_of_cell? _ _ c0
      have k0 : (0 : Int) ≤ (k : Int) := by omega
      have k1 : (k : Int) < (l.length : Int) := by omega
      have hrb := readU_bd (l := l.take k) fun y hy => HB.out y (List.mem_of_mem_take hy)
      go_wp2
      refine ⟨⟨k + 1, by omega, by go_num, ?_⟩, by simp [intOf]; omega⟩
      rw [readU_take hx, or_low _ _ (mul_low _) x0 x1, wrap_step]
    · have ek : k = l.length := by omega
      subst ek
      go_wp2
      go_ret
      rw [readN_wrap HB.out hn]
      exact ⟨rfl, rfl⟩
end Go.Proofs.YthbbfjfekchdiaaGreat
