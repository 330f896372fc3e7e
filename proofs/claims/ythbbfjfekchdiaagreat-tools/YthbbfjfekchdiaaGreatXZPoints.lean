import Derived.Test.YthbbfjfekchdiaaGreatXZFirst
import Derived.Test.YthbbfjfekchdiaaGreatXRFetch
namespace Go.Proofs.YthbbfjfekchdiaaGreat
open Go.RowKit
set_option linter.unusedSimpArgs false
def strB (fr un : Int) (q : Pt) : Bool := decide (fr ≤ q.1) && decide (q.1 ≤ un)
def ptsK (fr un : Int) (L : List (Option Pt)) : List Pt := (L.filterMap id).filter (strB fr un)
def optL (fr un : Int) : Option Pt → List Pt
  | some q => if strB fr un q then [q] else []
  | none => []
theorem ptsK_succ {fr un : Int} {L : List (Option Pt)} {k : Nat} {o : Option Pt} (h : L[k]? = some o) : ptsK fr un (L.take (k + 1)) = ptsK fr un (L.take k) ++ optL fr un o := by
  unfold ptsK
  rw [List.take_add_one, h, List.filterMap_append, List.filter_append]
  congr 1
  cases o with
  | none => rfl
  | some q => cases hq : strB fr un q <;> simp [Option.toList, optL, hq]
theorem ptsK_len (fr un : Int) (L : List (Option Pt)) : (ptsK fr un L).length ≤ L.length := by
  unfold ptsK
  exact Nat.le_trans (List.length_filter_le _ _) (List.length_filterMap_le _ _)
def SortOk : Prop :=
  (∀ w : World, Calls Tryz.prog 86 #[.slice none 0 0, .func (.func 87) #[] #[]] w fun e w' => e = .returned (.tuple #[]) ∧ w' = w) ∧
  ∀ (base g cap : Nat) (l : List Pt) (w : World), l.length ≤ 1000 → w.ownsRow base 48 2 (.slice (some ⟨g, 0, none⟩) l.length cap) l.length (ptCells l) →
    Calls Tryz.prog 86 #[.slice (some ⟨g, 0, none⟩) l.length cap, .func (.func 87) #[] #[]] w fun e w' => e = .returned (.tuple #[]) ∧ ∃ l' : List Pt, l'.Perm l ∧ l'.Pairwise (fun a b => a.1 ≤ b.1) ∧ w'.ownsRow base 48 2 (.slice (some ⟨g, 0, none⟩) l.length cap) l.length (ptCells l') ∧ Fr (fun j => j = g) w w'
set_option maxRecDepth 4000 in
set_option maxHeartbeats 4000000 in
theorem zpoints_any (HSO : Hid SortOk) (s fr un : Int) (g k cap : Nat) (L : List (Option Pt)) (w : World) (k2 : k ≤ 1000) (hL : L.length = k) (hg : w.heap[g]? = some (.cells (slotBlk L) 116)) :
    Calls Tryz.prog 64 #[arcV s g k cap, i64 fr, i64 un] w fun e w' => ∃ v pts, e = .returned v ∧ Below w.heap.size w w' ∧ pts.Perm (ptsK fr un L) ∧ pts.Pairwise (fun a b => a.1 ≤ b.1) ∧ w'.ownsRow w.heap.size 48 2 v pts.length (ptCells pts) := by
  have HG := hid hg
  have HL := hid hL
  have hgz : g < w.heap.size := blk_lt hg
  clear hg hL
  go_enter Tryz.func64, Tryz.ntmps64
  go_wp2
  have HA := hid (show Below w.heap.size w (w.alloc (.cells #[i64 s, .slice (some ⟨g, 0, none⟩) k cap] 94)) from (Below.refl _ w).alloc (Nat.le_refl _) _)
  generalize hwA : w.alloc (.cells #[.int .i64 s, .slice (some ⟨g, 0, none⟩) k cap] 94) = wA at HA ⊢
  have hzA : w.heap.size + 1 = wA.heap.size := by rw [← hwA]; simp
  clear hwA
  go_loopw [7, 13] (fun v' i wr => ∃ m : Nat, m ≤ k ∧ i = i64 m ∧ wr.ownsRow wA.heap.size 48 2 v' (ptsK fr un (L.take m)).length (ptCells (ptsK fr un (L.take m))) ∧ Below wA.heap.size wA wr) (fun _ i _ => k - (intOf i).toNat)
  case atStart => exact ⟨0, by omega, rfl, World.ownsRow_nil _ _ _ _, Below.refl _ _⟩
  case round =>
    obtain ⟨m, hm, rfl, ho, hb⟩ := hrel
    have HO := hid ho
    have HB := hid hb
    have hzr := hb.size
    have hpl := ptsK_len fr un (L.take m)
    have hpl2 : (ptsK fr un (L.take m)).length ≤ m := by
      have := List.length_take_le m L
      omega
    obtain ⟨os, hos⟩ : ∃ os, os = ptsK fr un (L.take m) := ⟨_, rfl⟩
    rw [← hos] at HO hpl2
    have HOS := hid hos
    have HGR := hid (blk_later hb (by omega) (blk_later HA.out hgz HG.out))
    clear ho hb hpl hos
    obtain ⟨a7, c7, rfl⟩ : ∃ a c, u7 = .slice a os.length c := by
      obtain ⟨_, ⟨h, h0⟩ | ⟨g, cap, cur, h, _⟩⟩ := HO.out
      · exact ⟨none, 0, by rw [h, h0]⟩
      · exact ⟨_, _, h⟩
    by_cases hlt : m < k
    rotate_left
    · have hmk : m = k := by omega
      subst hmk
      have HOS2 := hid (show os = ptsK fr un L by rw [HOS.out, List.take_of_length_le (by rw [HL.out]; exact Nat.le_refl _)])
      have HBF := hid (show Below w.heap.size w wr from HA.out.trans (HB.out.mono (by omega)))
      obtain ⟨_, ⟨hv7, hn7⟩ | ⟨g7, cap7, cur7, hv7, hg7, hblk7, _⟩⟩ := HO.out
      · have eo : os = [] := List.length_eq_zero_iff.1 hn7
        subst eo
        cases hv7
        go_wp2_with fail
        refine (HSO.out.1 _).mono ?_
        rintro e w' ⟨rfl, rfl⟩
        go_wp2
        go_ret
        exact ⟨.slice none 0 0, [], rfl, HBF.out, by rw [← HOS2.out], List.Pairwise.nil, World.ownsRow_nil _ _ _ _⟩
      · simp only [Value.slice.injEq, true_and] at hv7
        obtain ⟨rfl, rfl⟩ := hv7
        have hg7z : wA.heap.size ≤ g7 := hg7
        clear hblk7 hg7
        go_wp2_with fail
        refine (HSO.out.2 wA.heap.size g7 c7 os wr (by omega) HO.out).mono ?_
        rintro e w' ⟨rfl, l', hp, hs, ho', hf'⟩
        have HFIN := hid (show Below w.heap.size w w' ∧ l'.Perm os ∧ l'.Pairwise (fun a b => a.1 ≤ b.1) ∧ w'.ownsRow w.heap.size 48 2 (.slice (some ⟨g7, 0, none⟩) os.length c7) l'.length (ptCells l') from
          ⟨⟨hf'.os.trans HBF.out.os, hf'.tape.trans HBF.out.tape, hf'.output.trans HBF.out.output, Nat.le_trans HBF.out.size hf'.size, fun j hj => by
            rw [hf'.block j (Nat.lt_of_lt_of_le hj HBF.out.size) (by show ¬ j = g7; omega)]
            exact HBF.out.block j hj⟩, hp, hs, by rw [hp.length_eq]; exact owns_base ho' (by omega)⟩)
        clear hp hs ho' hf'
        go_wp2
        go_ret
        exact ⟨_, l', rfl, HFIN.out.1, by rw [← HOS2.out]; exact HFIN.out.2.1, HFIN.out.2.2.1, HFIN.out.2.2.2⟩
    obtain ⟨o, hlo⟩ : ∃ o, L[m]? = some o := ⟨_, List.getElem?_eq_getElem (by have := HL.out; omega)⟩
    have HS := hid (ptsK_succ (fr := fr) (un := un) hlo)
    have m0 : (0 : Int) ≤ (m : Int) := by omega
    have m1 : (m : Int) < (k : Int) := by omega
    have hgr : g < wr.heap.size := blk_lt HGR.out
    have x0 : wr.cell? ⟨g, m * 3, none⟩ = (slotCells o)[0]? := (cell_of_blk HGR.out _).trans (slotBlk_at hlo 0 (by omega))
    have x1 : wr.cell? ⟨g, m * 3 + 1, none⟩ = (slotCells o)[1]? := (cell_of_blk HGR.out _).trans (slotBlk_at hlo 1 (by omega))
    have x2 : wr.cell? ⟨g, m * 3 + 2, none⟩ = (slotCells o)[2]? := (cell_of_blk HGR.out _).trans (slotBlk_at hlo 2 (by omega))
    clear hlo
    cases o with
    | none =>
      have y0 : wr.cell? ⟨g, m * 3, none⟩ = some (.bool false) := x0
      have y1 : wr.cell? ⟨g, m * 3 + 1, none⟩ = some (i64 0) := x1
      have y2 : wr.cell? ⟨g, m * 3 + 2, none⟩ = some (i64 0) := x2
      have HN := hid (show ptsK fr un (L.take (m + 1)) = os by rw [HS.out, HOS.out]; simp [optL])
      clear x0 x1 x2
      go_wp2
      go_roundw
      case rel => first | exact ⟨m + 1, by omega, by go_num, by rw [HN.out]; exact HO.out.alloc _, HB.out.alloc hzr _⟩ | ((repeat apply Exists.intro); exact ⟨⟨m + 1, by omega, by go_num, by rw [HN.out]; exact HO.out.alloc _, HB.out.alloc hzr _⟩, rfl⟩)
      case measure => simp [intOf]; omega
    | some q =>
      obtain ⟨qt, qv⟩ := q
      have y0 : wr.cell? ⟨g, m * 3, none⟩ = some (.bool true) := x0
      have y1 : wr.cell? ⟨g, m * 3 + 1, none⟩ = some (i64 qt) := x1
      have y2 : wr.cell? ⟨g, m * 3 + 2, none⟩ = some (i64 qv) := x2
      clear x0 x1 x2
      have HS2 := hid (show ptsK fr un (L.take (m + 1)) = os ++ (if strB fr un (qt, qv) then [(qt, qv)] else []) by rw [HS.out, HOS.out]; rfl)
      by_cases h1 : fr ≤ qt
      rotate_left
      · have HN := hid (show ptsK fr un (L.take (m + 1)) = os by rw [HS2.out, if_neg (by unfold strB; simp; omega), List.append_nil])
        go_wp2
        go_roundw
        case rel => first | exact ⟨m + 1, by omega, by go_num, by rw [HN.out]; exact HO.out.alloc _, HB.out.alloc hzr _⟩ | ((repeat apply Exists.intro); exact ⟨⟨m + 1, by omega, by go_num, by rw [HN.out]; exact HO.out.alloc _, HB.out.alloc hzr _⟩, rfl⟩)
        case measure => simp [intOf]; omega
      by_cases h2 : qt ≤ un
      rotate_left
      · have HN := hid (show ptsK fr un (L.take (m + 1)) = os by rw [HS2.out, if_neg (by unfold strB; simp; omega), List.append_nil])
        go_wp2
        go_roundw
        case rel => first | exact ⟨m + 1, by omega, by go_num, by rw [HN.out]; exact HO.out.alloc _, HB.out.alloc hzr _⟩ | ((repeat apply Exists.intro); exact ⟨⟨m + 1, by omega, by go_num, by rw [HN.out]; exact HO.out.alloc _, HB.out.alloc hzr _⟩, rfl⟩)
        case measure => simp [intOf]; omega
      obtain ⟨tg, htg⟩ : ∃ t, t = os ++ [(qt, qv)] := ⟨_, rfl⟩
      have HTG := hid htg
      have HN := hid (show ptsK fr un (L.take (m + 1)) = tg by rw [HS2.out, if_pos (by unfold strB; simp; omega), htg])
      clear htg
      have HSRC := hid (show SrcAt ((wr.alloc (.cells #[.bool true, i64 qt, i64 qv] 116)).alloc (.cells #[i64 qt, i64 qv] 48)) (.slice (some ⟨wr.heap.size + 1, 0, none⟩) 1 1) [(qt, qv)] from .inr ⟨⟨wr.heap.size + 1, 0, none⟩, 1, rfl, fun j u hj => by
        have e : (wr.alloc (.cells #[.bool true, i64 qt, i64 qv] 116)).heap.size = wr.heap.size + 1 := by simp
        have hb := blk_new (wr.alloc (.cells #[.bool true, i64 qt, i64 qv] 116)) (.cells #[i64 qt, i64 qv] 48)
        rw [e] at hb
        rw [show (⟨wr.heap.size + 1, 0, none⟩ : Addr).add j = ⟨wr.heap.size + 1, 0 + j, none⟩ from addr_addN _ _ _, Nat.zero_add, cell_of_blk hb]
        simpa [ptCells] using hj⟩)
      go_wp2_with (at_builtin; go_must (refine wpList_append_pts _ (by rfl) (.tmp 31) (.tmp 37) (by rfl) wA.heap.size _ _ os [(qt, qv)] (by rfl) (by rfl) tg HTG ((HO.out.alloc _).alloc _) HSRC.out (by simp; omega) (by simp; omega) ?_))
      intro v' w' hown hgrow
      have HOW := hid hown
      have HBW := hid (show Below wA.heap.size wA w' from Below.grown ((HB.out.alloc hzr _).alloc (by simp; omega) _) hgrow (by simp; omega) (fun j hj => (HO.out.lt j hj).1))
      clear hown hgrow
      go_wp2
      go_roundw
      case rel => first | exact ⟨m + 1, by omega, by go_num, by rw [HN.out]; exact HOW.out, HBW.out⟩ | ((repeat apply Exists.intro); exact ⟨⟨m + 1, by omega, by go_num, by rw [HN.out]; exact HOW.out, HBW.out⟩, rfl⟩)
      case measure => simp [intOf]; omega
end Go.Proofs.YthbbfjfekchdiaaGreat
