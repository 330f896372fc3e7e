import Derived.Test.YthbbfjfekchdiaaGreatXTk
import Derived.Test.YthbbfjfekchdiaaGreatXZMay
import Derived.Test.YthbbfjfekchdiaaGreatXCGood
import Derived.Test.YthbbfjfekchdiaaGreatXPNum
import Derived.Deep.AppendLies
import Derived.Deep.AppendSrc
import Derived.Deep.DeepCutAuto
import Derived.Lib.SlBytesConst
namespace Go.Proofs.YthbbfjfekchdiaaGreat
open Go.RowKit
set_option linter.unusedSimpArgs false
attribute [local go_sem] Go.wp_at_zero Go.wp_at_succ
theorem Tryz.infoU8 : (Tryz.prog.info? 5).map (fun i => (i.zero, i.size, i.bytes)) = some (some (.int .u8 0), 1, 1) := by kernel_rfl
theorem ZRep.read {w : World} {In : Nat → Prop} {p : Nat} {d : RDb} (h : ZRep w In p d) : ∃ gl cap, w.cell? ⟨p, 0, none⟩ = some (.slice (some ⟨gl, 0, none⟩) d.c.many cap) ∧ w.cell? ⟨p, 1, none⟩ = some (.iface (methT d.c.m) (.agg #[])) ∧ w.cell? ⟨p, 2, none⟩ = some (i64 d.c.f) ∧
    ∀ i, i < d.c.many → ∃ g, w.cell? ⟨gl, i * 2, none⟩ = some (i64 (d.c.s i)) ∧ w.cell? ⟨gl, i * 2 + 1, none⟩ = some (.slice (some ⟨g, 0, none⟩) (d.c.k i).toNat (d.c.k i).toNat) ∧ w.heap[g]? = some (.cells (slotBlk (slotsL d.c i ((d.L[i]?).getD []) (d.c.k i).toNat)) 116) := by
  obtain ⟨gl, cap, cur, gs, a, b, c, e, f, gi, r⟩ := h.mem
  refine ⟨gl, cap, cell_of_blk b 0, cell_of_blk b 1, cell_of_blk b 2, fun i hi => ?_⟩
  obtain ⟨x, hx⟩ : ∃ x, gs[i]? = some x := ⟨_, List.getElem?_eq_getElem (by omega)⟩
  obtain ⟨l, hl⟩ : ∃ l, d.L[i]? = some l := ⟨_, List.getElem?_eq_getElem (by rw [h.ok.len]; exact hi)⟩
  obtain ⟨r1, r2, r3⟩ := r i x l hx hl
  rw [hl, Option.getD_some]
  exact ⟨x, by rw [cell_of_blk c]; exact r1, by rw [cell_of_blk c]; exact r2, r3⟩
section
variable {P : Program} (w : World)
theorem step_append_full {ops : Array Oper} {o : Oper} {a : Act} {K : Act → World → Prop} {Q : Exit → Act → World → Prop} {E : Prop} (hgd : o.guard = none) (s x : Operand) (t : TypeId)
    (ho : o.op = .call { callee := .builtin .append, args := #[s, x], argTypes := #[t, t] })
    (base : Nat) (e : TypeId) (i : TypeInfo) (z : Value) (bytes : Nat) (ht : P.underlying t = some (.slice e)) (hi : P.info? e = some i) (hz : i.zero = some z)
    (hsize : i.size = 1) (hby : i.bytes = bytes) (hzs : z.cells.size = 1) (g n : Nat) (olds : List Value) (hs : a.eval s = .slice (some ⟨g, 0, none⟩) n n) (hol : olds.length = n) (hcl : ∀ j u, olds[j]? = some u → w.cell? ⟨g, j, none⟩ = some u)
    (ad : Addr) (m c : Nat) (news : List Value) (hx : a.eval x = .slice (some ad) m c) (hl : news.length = m) (hnews : ∀ j u, news[j]? = some u → w.cell? (ad.add j) = some u) (h1 : ∀ u ∈ news, u.oneCell' = true)
    (hm : 0 < m) (h63 : n + m ≤ maxLen) (hbytes : (n + m) * bytes ≤ 140737488355328) (hbase : base ≤ w.heap.size) (H : Nat) (hH : w.heap.size = H)
    (h : ∀ cap w', w'.ownsRow base e 1 (.slice (some ⟨H, 0, none⟩) (n + m) cap) (n + m) (olds ++ news) → w.grownBy w' none → H < w'.heap.size → K (a.put o.dst (.slice (some ⟨H, 0, none⟩) (n + m) cap)) w') :
    if Region.wanted o (yielded ops a.tmps) = true then Oper.wp P o a w K Q else E := by
  have hw : Region.wanted o (yielded ops a.tmps) = true := by simp [Region.wanted, hgd]
  rw [if_pos hw]
  have hold : (Builtin.firstCells i.size n (.slice (some ⟨g, 0, none⟩) n n)).run P w.drew = .ok olds.toArray w.drew :=
    run_firstCells_some w.drew i.size n ⟨g, 0, none⟩ n n olds (by rw [hol, hsize, Nat.mul_one]) (fun j u hj => by rw [Addr.add_mid, Nat.zero_add]; simpa using hcl j u hj)
  have hsrc := Src.ofSlice (P := P) w (size := i.size) ht ad m c news (by rw [hsize, hl, Nat.mul_one]) hnews h1
  have hfit : Builtin.nextslicecap (n + m) n * i.bytes ≤ 281474976710656 := by
    have := Nat.mul_le_mul_right i.bytes (nextslicecap_le (need := n + m) (old := n) (by omega))
    rw [Nat.mul_assoc, hby] at this
    rw [hby]
    omega
  have hr := run_append_grow_src (P := P) w t t o.type e i z ht hi hz (some ⟨g, 0, none⟩) n n olds hold (.slice (some ad) m c) m news hsrc (by omega) (by unfold maxLen at h63; omega) hfit
  have hge := grownCap_ge w (n + m) n e
  have hcm : grownCap w (n + m) n e ≤ maxLen := grownCap_le_maxLen w (n + m) n e h63
  unfold Oper.wp execOp
  simp only [ho, resolve, invoke, builtin, Sem.run_bind, Sem.run_pure, Result.andThen_ok, List.map_toArray, List.map_cons, List.map_nil, hs, hx, hr]
  subst hH
  have hlen : (olds ++ news).length = (n + m) * 1 := by rw [List.length_append, hol, hl, Nat.mul_one]
  refine h _ _ ⟨hlen, .inr ⟨w.heap.size, _, _, rfl, hbase, heap_alloc_new w.drew _, hge, hcm, ?_, ?_⟩⟩ ⟨rfl, rfl, rfl, by simp, fun k hk _ => Below.heap_alloc w.drew _ k hk⟩ (by simp)
  · simp only [Array.size_append, List.size_toArray, size_zeroCells, hzs, hlen]
    omega
  · simp only [Array.toList_append]
    rw [← hlen]
    exact List.take_left
end
theorem blk_two (w : World) (O1 O2 : Obj) : ((w.alloc O1).alloc O2).heap[w.heap.size + 1]? = some O2 := by
  have := blk_new (w.alloc O1) O2
  simpa using this
theorem put_new (w2 : World) (T k : Nat) (cs : List Value) (h : cs.length = k) : ((w2.alloc (.cells (zB k).toArray T)).setCells w2.heap.size 0 cs).heap[w2.heap.size]? = some (.cells cs.toArray T) ∧ Below w2.heap.size w2 ((w2.alloc (.cells (zB k).toArray T)).setCells w2.heap.size 0 cs) ∧ (w2.alloc (.cells (zB k).toArray T)).there w2.heap.size 0 cs.toArray.size ∧ ((w2.alloc (.cells (zB k).toArray T)).setCells w2.heap.size 0 cs).heap.size = w2.heap.size + 1 := by
  have hz : (zB k).length = k := by unfold zB; rw [bs_len, List.length_replicate]
  have h0 := blk_new w2 (.cells (zB k).toArray T)
  obtain ⟨a, b, c⟩ := blk_setCells cs [] (zB k) [] (w2.alloc (.cells (zB k).toArray T)) (by rw [List.append_nil]; exact h0) (by omega)
  refine ⟨by rw [List.append_nil] at a; exact a, fr_below ((Below.refl _ w2).alloc (Nat.le_refl _) _) b (Nat.le_refl _), there_blk h0 (by simp [h, hz]), ?_⟩
  have c' : ((w2.alloc (.cells (zB k).toArray T)).setCells w2.heap.size 0 cs).heap.size = (w2.alloc (.cells (zB k).toArray T)).heap.size := c
  rw [c']; simp
theorem news_cells {w : World} {b t : Nat} {l : List Int} (h : w.heap[b]? = some (.cells (bs l).toArray t)) : ∀ j u, (bs l)[j]? = some u → w.cell? ((⟨b, 0, none⟩ : Addr).add j) = some u := by
  intro j u hj
  exact World.news_of_block h j u hj
theorem slotCells_form (o : Option Pt) : ∃ t a b, slotCells o = [.bool t, i64 a, i64 b] := by
  cases o with
  | none => exact ⟨false, 0, 0, rfl⟩
  | some q => exact ⟨true, q.1, q.2, rfl⟩
structure SvI (w wr : World) (v : Value) (l : List Int) : Prop where
  old : Below w.heap.size w wr
  own : wr.ownsRow w.heap.size 5 1 v l.length (bs l)
theorem SvI.below {w wr w' : World} {v : Value} {l : List Int} (h : SvI w wr v l) (hb : Below wr.heap.size wr w') : SvI w w' v l :=
  ⟨h.old.trans (hb.mono h.old.size), owns_below h.own hb⟩
theorem SvI.app {w wr w' : World} {v : Value} {l m : List Int} {g cap : Nat} (h : SvI w wr v l) (ho : w'.ownsRow w.heap.size 5 1 (.slice (some ⟨g, 0, none⟩) (l.length + m.length) cap) (l.length + m.length) (bs l ++ bs m)) (hg : wr.grownBy w' v.ownBlock) : SvI w w' (.slice (some ⟨g, 0, none⟩) (l.length + m.length) cap) (l ++ m) := by
  refine ⟨h.old.grown hg h.old.size fun k hk => (h.own.lt k hk).1, ?_⟩
  rw [bs_app, List.length_append]
  exact ho
set_option maxRecDepth 4000 in
set_option maxHeartbeats 4000000 in
theorem zsave_any (p : Nat) (d : RDb) (In : Nat → Prop) (w : World) (h : ZRep w In p d) :
    Calls Tryz.prog 31 #[.pointer (some ⟨p, 0, none⟩)] w fun e w' => ∃ v, e = .returned v ∧ SvI w w' v (saveL d) := by
  have h4 := d.c.many_le
  obtain ⟨⟨hm0, hm1⟩, ⟨hf0, hf1⟩, hn1, _, hbd, _⟩ := d.c.ok_iff.1 h.ok.cfg
  have HBD := hid (bdB_all hbd)
  have HOK := hid h.ok
  obtain ⟨gl, cap, x0, x1, x2, harc⟩ := h.read
  have HARC := hid harc
  obtain ⟨q0, hi0, hz0, hz1, hz2⟩ := info_parts Tryz.infoU8
  have HI0 := hid (And.intro hi0 (And.intro hz0 (And.intro hz1 hz2)))
  have hpz : p < w.heap.size := World.block_lt_of_cell? _ _ x0
  clear h hbd harc hi0 hz0 hz1 hz2
  obtain ⟨n, hn⟩ : ∃ n, n = d.c.many := ⟨_, rfl⟩
  obtain ⟨m, hm⟩ : ∃ m, m = d.c.m := ⟨_, rfl⟩
  obtain ⟨f, hf⟩ : ∃ f, f = d.c.f := ⟨_, rfl⟩
  rw [← hn] at h4 x0 hn1
  rw [← hm] at hm0 hm1 x1
  rw [← hf] at hf0 hf1 x2
  have HN := hid hn
  have HM := hid hm
  have HF := hid hf
  clear hn hm hf
  go_enter Tryz.func31, Tryz.ntmps31
  have hcv := Lib.run_convert_bytes_const (P := Tryz.prog) w 57 5 #[.int .u8 83, .int .u8 85, .int .u8 78, .int .u8 1] 4 4 Tryz.underlying57 Tryz.underlying5
  go_upto_region 2 with fail
  clear hcv
  refine wp_region_held_drew (S := (fun w' => w'.cell? ⟨p, 0, none⟩ = some (.slice (some ⟨gl, 0, none⟩) n cap) ∧ w'.cell? ⟨p, 1, none⟩ = some (.iface (methT m) (.agg #[])) ∧ w'.cell? ⟨p, 2, none⟩ = some (i64 f))) (by kernel_rfl) ?_ (fun hHeld => ?_)
  · go_keep
  refine tkI (i := 0) (oi := ⟨some 14, .move (.tmp 3), 57, _, #[], none⟩) ?_
  try simp only [Act.put, tkA, tkB, tkC]
  refine tkI (i := 1) (oi := ⟨some 15, .move (.tmp 0), 50, _, #[], none⟩) ?_
  try simp only [Act.put, tkA, tkB, tkC]
  refine tkI (i := 2) (oi := ⟨some 16, .nilCheck (.tmp 15), 0, _, #[⟨1, .data⟩], none⟩) ?_
  try simp only [Act.put, tkA, tkB, tkC]
  refine tkI (i := 3) (oi := ⟨some 17, .fieldAddr 89 (.tmp 16) 1, 0, _, #[⟨2, .data⟩], none⟩) ?_
  try simp only [Act.put, tkA, tkB, tkC]
  refine tkI (i := 4) (oi := ⟨some 18, .load 84 (.tmp 17), 84, _, #[⟨3, .data⟩], none⟩) ?_
  try simp only [Act.put, tkA, tkB, tkC]
  refine tkI (i := 7) (oi := ⟨some 21, .move (.tmp 0), 50, _, #[], none⟩) ?_
  try simp only [Act.put, tkA, tkB, tkC]
  refine tkI (i := 8) (oi := ⟨some 22, .nilCheck (.tmp 21), 0, _, #[⟨7, .data⟩], none⟩) ?_
  try simp only [Act.put, tkA, tkB, tkC]
  refine tkI (i := 9) (oi := ⟨some 23, .fieldAddr 89 (.tmp 22) 2, 0, _, #[⟨8, .data⟩], none⟩) ?_
  try simp only [Act.put, tkA, tkB, tkC]
  refine tkI (i := 10) (oi := ⟨some 24, .load 3 (.tmp 23), 3, _, #[⟨9, .data⟩], none⟩) ?_
  try simp only [Act.put, tkA, tkB, tkC]
  refine tkI (i := 11) (oi := ⟨some 25, .convert 3 5 (.tmp 24), 5, _, #[⟨10, .data⟩], none⟩) ?_
  try simp only [Act.put, tkA, tkB, tkC]
  refine tkI (i := 12) (oi := ⟨some 26, .move (.tmp 0), 50, _, #[], none⟩) ?_
  try simp only [Act.put, tkA, tkB, tkC]
  refine tkI (i := 13) (oi := ⟨some 27, .nilCheck (.tmp 26), 0, _, #[⟨12, .data⟩], none⟩) ?_
  try simp only [Act.put, tkA, tkB, tkC]
  refine tkI (i := 14) (oi := ⟨some 28, .fieldAddr 89 (.tmp 27) 0, 0, _, #[⟨13, .data⟩], none⟩) ?_
  try simp only [Act.put, tkA, tkB, tkC]
  refine tkI (i := 15) (oi := ⟨some 29, .load 87 (.tmp 28), 87, _, #[⟨14, .data⟩], none⟩) ?_
  try simp only [Act.put, tkA, tkB, tkC]
  refine tkI (i := 16) (oi := ⟨some 30, .call { callee := .builtin .len, args := #[.tmp 29], argTypes := #[87] }, 3, _, #[⟨15, .data⟩], none⟩) ?_
  try simp only [Act.put, tkA, tkB, tkC]
  refine tkI (i := 17) (oi := ⟨some 31, .convert 3 5 (.tmp 30), 5, _, #[⟨16, .data⟩], none⟩) ?_
  try simp only [Act.put, tkA, tkB, tkC]
  refine wpAnyH_ready (rs := [5]) (by kernel_rfl) (by simp) ?_
  refine AllReadyH.cons rfl (fun K' hK => ?_) AllReadyH.nil
  go_simp
  refine (number_any m _ hm0 hm1).mono ?_
  rintro e w1 ⟨rfl, rfl⟩
  go_wp2_with fail
  refine hK.out _ _ hHeld (fun hHeld => ?_)
  clear hK K'
  refine tkI (i := 6) (oi := ⟨some 20, .convert 3 5 (.tmp 19), 5, _, #[⟨5, .data⟩], none⟩) ?_
  try simp only [Act.put, tkA, tkB, tkC]
  refine wpAnyH_ready (rs := [18]) (by kernel_rfl) (by simp) ?_
  refine AllReadyH.cons rfl (fun K' hK => ?_) AllReadyH.nil
  go_simp
  refine hK.out _ _ ?_ (fun hHeld => ?_)
  · go_keep
  clear hK K'
  refine wpAnyH_ready (rs := [19]) (by kernel_rfl) (by simp) ?_
  refine AllReadyH.cons rfl (fun K' hK => ?_) AllReadyH.nil
  have hw0 := fun (O1 O2 : Obj) => show ((w.alloc O1).alloc O2).drew.heap[w.heap.size]? = some O1 from blk_alloc (blk_new w O1)
  have hw1 := fun (O1 O2 : Obj) => show ((w.alloc O1).alloc O2).drew.heap[w.heap.size + 1]? = some O2 from blk_two w O1 O2
  have um : IntKind.u8.wrap m = m := by rw [IntKind.wrap_u8]; omega
  have uf : IntKind.u8.wrap f = f := by rw [IntKind.wrap_u8]; omega
  have un : IntKind.u8.wrap (n : Int) = (n : Int) := by rw [IntKind.wrap_u8]; omega
  rw [um, uf, un]
  refine step_append_full _ (by rfl) (.tmp 14) (.tmp 32) 57 (by rfl) w.heap.size 5 q0 _ 1 Tryz.underlying57 HI0.out.1 HI0.out.2.1 HI0.out.2.2.1 HI0.out.2.2.2 rfl w.heap.size 4 (bs [83, 85, 78, 1]) (by rfl) rfl ?_ ⟨w.heap.size + 1, 0, none⟩ 3 3 (bs [m, f, (n : Int)]) (by rfl) rfl ?_ (bs_one _) (by decide) (by unfold maxLen; omega) (by omega) (by simp; omega) (w.heap.size + 2) (by simp) ?_
  · intro j u hj
    rw [cell_of_row _ _ j _ _ _ (hw0 _ _)]
    simpa [bs] using hj
  · exact World.news_of_block (hw1 _ _)
  intro cap3 w3 hown3 hg3 hlt3
  have HSV := hid (show SvI w w3 (.slice (some ⟨w.heap.size + 2, 0, none⟩) (4 + 3) cap3) (saveA d 0) from by
    refine ⟨?_, ?_⟩
    · refine Below.grown (w := ((w.alloc _).alloc _).drew) ?_ hg3 (by simp; omega) (by simp)
      exact (((Below.refl _ w).alloc (Nat.le_refl _) _).alloc (by simp) _).drew
    · have : bs (saveA d 0) = bs [83, 85, 78, 1] ++ bs [m, f, (n : Int)] := by
        rw [HM.out, HF.out, HN.out]; rfl
      rw [this, saveA_len]
      exact hown3)
  refine hK.out _ _ ?_ (fun hHeld => ?_)
  · exact ⟨cell_later HSV.out.old x0, cell_later HSV.out.old x1, cell_later HSV.out.old x2⟩
  clear hK K' hw0 hw1 um uf un hown3 hg3 hlt3
  refine tkI (i := 20) (oi := ⟨some 3, .assign (.tmp 33), 57, _, #[⟨19, .data⟩, ⟨19, .chain⟩, ⟨0, .phase⟩, ⟨1, .phase⟩, ⟨2, .phase⟩, ⟨3, .phase⟩, ⟨4, .phase⟩, ⟨5, .phase⟩, ⟨6, .phase⟩, ⟨7, .phase⟩, ⟨8, .phase⟩, ⟨9, .phase⟩, ⟨10, .phase⟩, ⟨11, .phase⟩, ⟨12, .phase⟩, ⟨13, .phase⟩, ⟨14, .phase⟩, ⟨15, .phase⟩, ⟨16, .phase⟩, ⟨17, .phase⟩, ⟨18, .phase⟩, ⟨19, .phase⟩], none⟩) ?_
  try simp only [Act.put, tkA, tkB, tkC]
  refine wpAnyH_done (by kernel_rfl) ?_ _
  go_wp2
  go_loopw [3, 39] (fun v' i' wr => ∃ k : Nat, k ≤ n ∧ i' = i64 k ∧ SvI w wr v' (saveA d k)) (fun _ i' _ => n - (intOf i').toNat)
  case atStart => exact ⟨0, by omega, rfl, HSV.out⟩
  clear HSV hHeld
  case round =>
    obtain ⟨k, hk, rfl, I⟩ := hrel
    have HI := hid I
    have z0 : wr.cell? ⟨p, 0, none⟩ = some (.slice (some ⟨gl, 0, none⟩) n cap) := cell_later I.old x0
    have hpr : p < wr.heap.size := World.block_lt_of_cell? _ _ z0
    clear I
    by_cases hlt : k < n
    case pos =>
      obtain ⟨g, r1, r2, _⟩ := HARC.out k (by rw [← HN.out]; exact hlt)
      obtain ⟨b1, b2, b3, b4⟩ := (show 1 ≤ d.c.s k ∧ d.c.s k ≤ 86400 ∧ 1 ≤ d.c.k k ∧ d.c.k k ≤ 60 from HBD.out k (by rw [← HN.out]; exact hlt))
      have y0 : wr.cell? ⟨gl, k * 2, none⟩ = some (i64 (d.c.s k)) := cell_later HI.out.old r1
      have y1 : wr.cell? ⟨gl, k * 2 + 1, none⟩ = some (.slice (some ⟨g, 0, none⟩) (d.c.k k).toNat (d.c.k k).toNat) := cell_later HI.out.old r2
      have hgz : gl < wr.heap.size := World.block_lt_of_cell? _ _ y0
      have k0 : (0 : Int) ≤ (k : Int) := by omega
      have k1 : (k : Int) < (n : Int) := by omega
      have HSA := hid (saveA_succ d k)
      obtain ⟨s, hs⟩ : ∃ s, s = d.c.s k := ⟨_, rfl⟩
      obtain ⟨c, hc⟩ : ∃ c, c = (d.c.k k).toNat := ⟨_, rfl⟩
      have hck : d.c.k k = (c : Int) := by omega
      rw [hck] at HSA
      rw [← hs] at y0 HSA b1 b2
      rw [← hc] at y1
      have hc60 : c ≤ 60 := by omega
      clear r1 r2 hs hc b3 b4 hck
      go_wp2_with fail
      refine (shape_any s _ c _).mono ?_
      rintro e w1 ⟨rfl, hb1⟩
      have HI1 := hid ((HI.out.below ((Below.refl _ wr).alloc (Nat.le_refl _) _)).below hb1)
      clear hb1 HI
      go_wp2_with fail
      refine (shape_bytes s c _).mono ?_
      rintro e w2 ⟨rfl, hb2⟩
      have HI2 := hid (HI1.out.below hb2)
      clear hb2 HI1
      obtain ⟨l8, hl8⟩ : ∃ l, l = numL s 4 ++ numL (c : Int) 4 := ⟨_, rfl⟩
      rw [← hl8] at HSA ⊢
      have hlen : (bs l8).length = 8 := by rw [bs_len, hl8, List.length_append, numL_len, numL_len]
      have hlen' : l8.length = 8 := by rw [← bs_len]; exact hlen
      obtain ⟨hp1, hp2, hp3, hp4⟩ := put_new w2 113 8 (bs l8) hlen
      have HP1 := hid hp1
      have HI3 := hid (HI2.out.below hp2)
      have HP3 := hid hp3
      have HP4 := hid hp4
      have HSZ := hid (show (Tryz.prog.info? 113).map (·.size) = some (bs l8).toArray.size by rw [List.size_toArray, hlen]; exact Tryz.infoShapeB)
      have HSL := hid (saveA_len d k)
      clear hp1 hp2 hp3 hp4 hlen hl8 HI2
      go_upto_region 7 with (refine wpList_store_mid (by rfl) 113 (.tmp 6) (.tmp 45) (by rfl) w2.heap.size 0 (bs l8).toArray (by rfl) (by rfl) HP3.out HSZ.out (all_oneCell_toArray (bs_one l8)) ?_)
      obtain ⟨w3, hw3⟩ : ∃ w3, w3 = (w2.alloc (.cells (zB 8).toArray 113)).setCells w2.heap.size 0 (bs l8) := ⟨_, rfl⟩
      rw [← hw3] at HP1 HI3 HP4
      have hg3 : wr.heap.size ≤ wr.heap.size := Nat.le_refl _
      change Code.wp _ _ _ _ ((w2.alloc (.cells (zB 8).toArray 113)).setCells w2.heap.size 0 (bs l8))
      rw [← hw3]
      clear hw3 hg3 HP3
      go_wp2_with (at_builtin; refine wpList_append_lies _ rfl (.tmp 46) (.tmp 47) 57 rfl w.heap.size 5 q0 _ 1 1 Tryz.underlying57 HI0.out.1 HI0.out.2.1 HI0.out.2.2.1 HI0.out.2.2.2 rfl (by decide) u3 _ _ rfl HI3.out.own ⟨w2.heap.size, 0, none⟩ 8 8 (bs l8) rfl (by rw [bs_len, hlen']) (news_cells HP1.out) (bs_one _) (by decide) ?_ ?_ ?_ (w2.heap.size + 1) HP4.out ?_)
      · rw [HSL.out]; unfold maxLen; omega
      · rw [HSL.out]; omega
      · exact HI3.out.old.size
      intro g4 cap4 w4 hown4 hg4 hat4 hlt4
      rw [show (8 : Nat) = l8.length from hlen'.symm] at hown4 ⊢
      have HN4 := hid (HI3.out.app hown4 hg4)
      rw [← HSA.out] at HN4
      clear hown4 hg4 hat4 hlt4
      go_wp2
      go_roundw
      case rel => first | exact ⟨k + 1, by omega, by go_num, HN4.out⟩ | ((repeat apply Exists.intro); exact ⟨⟨k + 1, by omega, by go_num, HN4.out⟩, rfl⟩)
      case measure => simp [intOf]; omega
    have ek : n = k := by omega
    subst ek
    have HSV := hid (show SvI w wr u3 (saveB d 0) by rw [saveB_zero, ← HN.out]; exact HI.out)
    clear HI
    go_wp2
    go_loopw [3, 55] (fun v' i' wx => ∃ i : Nat, i ≤ n ∧ i' = i64 i ∧ SvI w wx v' (saveB d i)) (fun _ i' _ => n - (intOf i').toNat)
    case atStart => exact ⟨0, by omega, rfl, HSV.out⟩
    clear HSV z0 hpr hlt
    case round =>
      obtain ⟨i, hi, rfl, I⟩ := hrel
      have HI := hid I
      clear I
      by_cases hlt : i < n
      case neg =>
        have ei : i = n := by omega
        subst ei
        rw [HN.out, saveB_all] at HI
        go_wp2
        go_ret
        exact ⟨_, rfl, HI.out⟩
      obtain ⟨g, r1, r2, r3⟩ := HARC.out i (by rw [← HN.out]; exact hlt)
      obtain ⟨b1, b2, b3, b4⟩ := (show 1 ≤ d.c.s i ∧ d.c.s i ≤ 86400 ∧ 1 ≤ d.c.k i ∧ d.c.k i ≤ 60 from HBD.out i (by rw [← HN.out]; exact hlt))
      have y0 : wr.cell? ⟨gl, i * 2, none⟩ = some (i64 (d.c.s i)) := cell_later HI.out.old r1
      have y1 : wr.cell? ⟨gl, i * 2 + 1, none⟩ = some (.slice (some ⟨g, 0, none⟩) (d.c.k i).toNat (d.c.k i).toNat) := cell_later HI.out.old r2
      have hgz : gl < wr.heap.size := World.block_lt_of_cell? _ _ y0
      have k0 : (0 : Int) ≤ (i : Int) := by omega
      have k1 : (i : Int) < (n : Int) := by omega
      obtain ⟨l, hl⟩ : ∃ l, l = (d.L[i]?).getD [] := ⟨_, rfl⟩
      obtain ⟨s, hs⟩ : ∃ s, s = d.c.s i := ⟨_, rfl⟩
      obtain ⟨c, hc⟩ : ∃ c, c = (d.c.k i).toNat := ⟨_, rfl⟩
      have HSB := hid (saveB_succ d i)
      have HSL := hid (saveB_len HOK.out i (by rw [← HN.out]; exact hi))
      rw [← hs] at y0
      rw [← hl, ← hc] at r3 HSB
      rw [← hc] at y1
      have hc60 : c ≤ 60 := by omega
      have HR3 := hid r3
      have hgw : g < w.heap.size := blk_lt r3
      clear r1 r2 r3 hs hc hl b1 b2 b3 b4
      go_upto_region 13 with fail
      have HI1 := hid (show SvI w (wr.alloc (.cells #[i64 s, .slice (some ⟨g, 0, none⟩) c c] 94)) u3 (saveB d i ++ slotsB d.c i l 0) by
        have := HI.out.below ((Below.refl _ wr).alloc (Nat.le_refl _) (.cells #[i64 s, .slice (some ⟨g, 0, none⟩) c c] 94))
        simpa [slotsB] using this)
      clear HI
      go_loopw [3, 62] (fun v' j' wx => ∃ j : Nat, j ≤ c ∧ j' = i64 j ∧ SvI w wx v' (saveB d i ++ slotsB d.c i l j)) (fun _ j' _ => c - (intOf j').toNat)
      case atStart => exact ⟨0, by omega, rfl, HI1.out⟩
      clear HI1 y0 y1 hgz
      case round =>
        obtain ⟨j, hj, rfl, I⟩ := hrel
        have HI := hid I
        clear I
        by_cases hlj : j < c
        case neg =>
          have ej : j = c := by omega
          subst ej
          rw [← HSB.out] at HI
          go_wp2
          go_roundw
          case rel => first | exact ⟨i + 1, by omega, by go_num, HI.out⟩ | ((repeat apply Exists.intro); exact ⟨⟨i + 1, by omega, by go_num, HI.out⟩, rfl⟩)
          case measure => simp [intOf]; omega
        obtain ⟨o, ho⟩ : ∃ o, o = slotAt d.c i l j := ⟨_, rfl⟩
        have HSS := hid (show slotsB d.c i l (j + 1) = slotsB d.c i l j ++ slotBytes o by rw [slotsB_succ, ho]; rfl)
        have hat : (slotsL d.c i l c)[j]? = some o := by
          unfold slotsL
          rw [List.getElem?_map, List.getElem?_range hlj, Option.map_some, ho]
        obtain ⟨t, a, b, hf⟩ := slotCells_form o
        have hr := blk_later HI.out.old hgw HR3.out
        have s0 : wr.cell? ⟨g, j * 3, none⟩ = some (.bool t) := by
          have := slotBlk_at hat 0 (by omega)
          rw [hf] at this
          rw [cell_of_blk hr]
          simpa using this
        have s1 : wr.cell? ⟨g, j * 3 + 1, none⟩ = some (i64 a) := by
          have := slotBlk_at hat 1 (by omega)
          rw [hf] at this
          rw [cell_of_blk hr]
          simpa using this
        have s2 : wr.cell? ⟨g, j * 3 + 2, none⟩ = some (i64 b) := by
          have := slotBlk_at hat 2 (by omega)
          rw [hf] at this
          rw [cell_of_blk hr]
          simpa using this
        have hgr : g < wr.heap.size := World.block_lt_of_cell? _ _ s0
        have j0 : (0 : Int) ≤ (j : Int) := by omega
        have j1 : (j : Int) < (c : Int) := by omega
        have HSC := hid (fun (w : World) => slot_bytes_any o w)
        rw [hf] at HSC
        have hlen : (bs (slotBytes o)).length = 12 := by rw [bs_len, slotBytes_len]
        have hlen' : (slotBytes o).length = 12 := slotBytes_len o
        have HLL := hid (show (saveB d i ++ slotsB d.c i l j).length ≤ 39 + 720 * i + 12 * j by rw [List.length_append, slotsB_len]; have := HSL.out; omega)
        have HLA := hid (List.append_assoc (saveB d i) (slotsB d.c i l j) (slotBytes o))
        rw [← HSS.out] at HLA
        obtain ⟨B12, hB12⟩ : ∃ x, x = slotBytes o := ⟨_, rfl⟩
        obtain ⟨old, hold⟩ : ∃ x, x = saveB d i ++ slotsB d.c i l j := ⟨_, rfl⟩
        rw [← hB12] at HSC hlen hlen' HLA
        rw [← hold] at HI HLL HLA
        clear ho hat hf hr hB12 hold HSS
        go_wp2_with fail
        refine (HSC.out _).mono ?_
        rintro e w2 ⟨rfl, hb2⟩
        have HI2 := hid ((HI.out.below ((Below.refl _ wr).alloc (Nat.le_refl _) _)).below hb2)
        obtain ⟨hp1, hp2, hp3, hp4⟩ := put_new w2 118 12 (bs B12) hlen
        have HP1 := hid hp1
        have HI3 := hid (HI2.out.below hp2)
        have HP3 := hid hp3
        have HP4 := hid hp4
        have HSZ := hid (show (Tryz.prog.info? 118).map (·.size) = some (bs B12).toArray.size by rw [List.size_toArray, hlen]; exact Tryz.infoBytes)
        clear hp1 hp2 hp3 hp4 hlen HI2 hb2 HI HSC
        go_upto_region 16 with (refine wpList_store_mid (by rfl) 118 (.tmp 11) (.tmp 67) (by rfl) w2.heap.size 0 (bs B12).toArray (by rfl) (by rfl) HP3.out HSZ.out (all_oneCell_toArray (bs_one B12)) ?_)
        obtain ⟨w3, hw3⟩ : ∃ w3, w3 = (w2.alloc (.cells (zB 12).toArray 118)).setCells w2.heap.size 0 (bs B12) := ⟨_, rfl⟩
        rw [← hw3] at HP1 HI3 HP4
        change Code.wp _ _ _ _ ((w2.alloc (.cells (zB 12).toArray 118)).setCells w2.heap.size 0 (bs B12))
        rw [← hw3]
        clear hw3 HP3
        go_wp2_with (at_builtin; refine wpList_append_lies _ rfl (.tmp 68) (.tmp 69) 57 rfl w.heap.size 5 q0 _ 1 1 Tryz.underlying57 HI0.out.1 HI0.out.2.1 HI0.out.2.2.1 HI0.out.2.2.2 rfl (by decide) u3 _ _ rfl HI3.out.own ⟨w2.heap.size, 0, none⟩ 12 12 (bs B12) rfl (by rw [bs_len, hlen']) (news_cells HP1.out) (bs_one _) (by decide) ?_ ?_ ?_ (w2.heap.size + 1) HP4.out ?_)
        · have := HLL.out; unfold maxLen; omega
        · have := HLL.out; omega
        · exact HI3.out.old.size
        intro g4 cap4 w4 hown4 hg4 hat4 hlt4
        rw [show (12 : Nat) = B12.length from hlen'.symm] at hown4 ⊢
        have HN4 := hid (HI3.out.app hown4 hg4)
        rw [HLA.out] at HN4
        clear hown4 hg4 hat4 hlt4
        go_wp2
        go_roundw
        case rel => first | exact ⟨j + 1, by omega, by go_num, HN4.out⟩ | ((repeat apply Exists.intro); exact ⟨⟨j + 1, by omega, by go_num, HN4.out⟩, rfl⟩)
        case measure => simp [intOf]; omega
end Go.Proofs.YthbbfjfekchdiaaGreat
