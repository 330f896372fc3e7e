import Derived.Test.YtaccihhnpheecaaGreatInv
namespace Go.Proofs.YtaccihhnpheecaaGreat
open Go.RowKit
set_option linter.unusedSimpArgs false

theorem Tryz.infoPair : (Tryz.prog.info? 53).map (fun i => (i.zero, i.size, i.bytes)) = some (some (.agg #[.pointer none, .pointer none]), 2, 16) := by kernel_rfl

set_option maxHeartbeats 1000000 in
theorem one_no (B : Nat) (w : World) :
    Calls Tryz.prog 19 #[.pointer (some ⟨B, 0, none⟩), .pointer none, .pointer none] w fun e w' => e = .returned (.bool true) ∧ w' = w := by
  go_enter Tryz.func19, Tryz.ntmps19
  go_wp2
  go_ret
  exact ⟨rfl, rfl⟩

set_option maxHeartbeats 2000000 in
theorem one_yes (B d r : Nat) (c : Cfg) (cs : List Cfg) (w : World) (hI : Inv w B cs) (hok : c.Ok) (hd : RepD w d c) (hr : RepR w r c) (hn : cs.length ≤ 1000000000000) :
    Calls Tryz.prog 19 #[.pointer (some ⟨B, 0, none⟩), .pointer (some ⟨d, 0, none⟩), .pointer (some ⟨r, 0, none⟩)] w fun e w' => e = .returned (.bool true) ∧ Inv w' B (cs ++ [c]) ∧ Keep w w' ∧ Below B w w' := by
  obtain ⟨v, ps, hB, ho, hp⟩ := hI
  obtain ⟨i0, hi, hz0, hz1, hz2⟩ := info_parts Tryz.infoPair
  have HI0 := hid (And.intro hi (And.intro hz0 (And.intro hz1 hz2)))
  have d0 : w.cell? ⟨B, 0, none⟩ = some v := cell_of_blk hB 0
  have f0 : w.frozen? ⟨B, 0, none⟩ = false := frozen_of_blk hB 0
  have hz := blk_lt hB
  have HS := hid (fun (w3 : World) (g cap : Nat) (O : Obj) h1 h2 => inv_one (w3 := w3) (g := g) (cap := cap) (O := O) hB ho hp hok hd hr rfl h1 h2)
  have HD := hid (show some B ≠ v.ownBlock from owns_not ho (by omega))
  have HO := hid ho
  have HB := hid hB
  clear hi hz0 hz1 hz2 hok hd hr hp ho hB
  go_enter Tryz.func19, Tryz.ntmps19
  go_wp2_with (at_builtin; refine wpList_append_lies _ rfl (.tmp 18) (.tmp 22) 28 rfl (B + 1) 53 i0 _ 2 16 Tryz.underlying28 HI0.out.1 HI0.out.2.1 HI0.out.2.2.1 HI0.out.2.2.2 rfl (by decide) v cs.length ps rfl (HO.out.alloc _) ⟨w.heap.size, 0, none⟩ 1 1 [.pointer (some ⟨d, 0, none⟩), .pointer (some ⟨r, 0, none⟩)] rfl rfl (World.news_of_block (heap_alloc_new w _)) (by simp [Value.oneCell']) (by decide) ?_ ?_ ?_ (w.heap.size + 1) (by simp) ?_)
  · unfold maxLen; omega
  · omega
  · simp; omega
  intro g cap w3 hown3 hgrow hat hlt3
  have blk3 := (hgrow.block B (by simp; omega) HD.out).trans (blk_alloc HB.out)
  have d3 : w3.cell? ⟨B, 0, none⟩ = some v := cell_of_blk blk3 0
  have f3 : w3.frozen? ⟨B, 0, none⟩ = false := frozen_of_blk blk3 0
  have hz3 : B < w3.heap.size := blk_lt blk3
  have HR := hid (HS.out w3 g cap _ hown3 hgrow)
  clear hown3 hgrow hat hlt3 blk3
  go_wp2
  go_ret
  exact ⟨rfl, HR.out⟩
end Go.Proofs.YtaccihhnpheecaaGreat
