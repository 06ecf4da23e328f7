import Derived.Test.YtjmhhjdkemicbaaDoorZKi
import Derived.Test.YtjmhhjdkemicbaaDoorZSh
namespace Go.Proofs.YtjmhhjdkemicbaaDoor

theorem pre_facts {pre L : List Nat} {x : Nat} (h : pre ++ [x] <+: L) : x ∈ L ∧ pre.length < L.length := by
  have h1 := h.length_le
  rw [List.length_append, List.length_singleton] at h1
  exact ⟨h.subset (by simp), by omega⟩
end Go.Proofs.YtjmhhjdkemicbaaDoor
namespace Go.Proofs.YtjmhhjdkemicbaaDoor
open Go.RowKit Go.Deep Go.Shelf Go.Lib

attribute [local go_sem] Oper.semAt_some

abbrev cellN (c : Nat) : Value := .int .i64 ((c : Nat) : Int)
/-- The blocks that are the loop's body's: the variable's box, and what its slice lies in. -/
def ownB (bb : Nat) (W : World) (k : Nat) : Prop := k = bb ∨ ∃ a n c, W.cell? ⟨bb, 0, none⟩ = some (.slice (some a) n c) ∧ a.block = k
theorem ownB_ow {bb B : Nat} (h : bb < B) : Ow (ownB bb) B := ⟨fun W W' row hs hg hr k hk => by
  rcases hk with hk | ⟨a, n, c, h1, h2⟩
  · exact .inl hk
  · have hh : W'.heap[bb]? = W.heap[bb]? := hg.block bb (by omega) (fun e => by have := (hr _ e.symm).1; omega)
    exact .inr ⟨a, n, c, by rw [← h1]; exact (World.cell?_of_block (a := ⟨bb, 0, none⟩) hh).symm, h2⟩⟩
theorem search_any {w : World} {base : Nat} {v : Value} {ys : List Nat} (hrow : w.ownsRow base 3 1 v ys.length (ys.map cellN)) (hs : ys.Pairwise (· < ·)) (hl : ys.length ≤ 5000) (x : Nat) :
    Calls Tryd.prog 32 #[v, .int .i64 (x : Int)] w fun e w' => ∃ b q, e = .returned (.tuple #[.int .i64 ((placeN ys x : Nat) : Int), .bool b]) ∧ w' = w.drewN q := by
  rcases hrow.2 with ⟨rfl, h0⟩ | ⟨g, cap, cur, rfl, hbg, hh, hncap, hcap, hcs, htk⟩
  · have e0 : ys = [] := List.eq_nil_of_length_eq_zero h0
    subst e0
    refine (Any.slices_BinarySearch_int_empty laysS none 0 (x : Int) w).mono ?_
    rintro e w' ⟨rfl, rfl⟩
    exact ⟨false, 0, rfl, rfl⟩
  · have hlen : (ys.map fun c => ((c : Nat) : Int)).length = ys.length := by simp
    have htake : (ys.map fun c => ((c : Nat) : Int)).take ys.length = ys.map fun c => ((c : Nat) : Int) := by rw [← hlen, List.take_length]
    have hC := Any.slices_BinarySearch_int laysS g 0 ys.length cap (ys.map fun c => ((c : Nat) : Int)) (x : Int) w (by rw [hlen]; exact Nat.le_refl _) (by omega) (fun j hj => by
      rw [hlen] at hj
      have e := hrow.cells (g := g) rfl j (cellN ys[j]) (by rw [List.getElem?_map, List.getElem?_eq_getElem hj]; rfl)
      rw [Addr.add_lit] at e
      rw [e]
      simp [List.getD, List.getElem?_eq_getElem hj]) (by rw [htake, List.pairwise_map]; exact hs.imp fun h => by omega)
    refine hC.mono ?_
    rintro e w' ⟨rfl, q, rfl⟩
    rw [htake]
    refine ⟨(ys.map fun c => ((c : Nat) : Int)).contains (x : Int), q, ?_, rfl⟩
    have ec : (ys.map fun c => ((c : Nat) : Int)).countP (fun t => decide (t < (x : Int))) = placeN ys x := by
      unfold placeN
      rw [List.countP_map]
      congr 1
      funext c
      simp
    rw [ec]
theorem put_row {W : World} {n0 g cap x : Nat} {pre : List Nat} (h : W.ownsRow n0 3 1 (.slice (some ⟨g, 0, none⟩) (((sortN pre).map cellN).length + 1) cap) (((sortN pre).map cellN).length + 1) (((sortN pre).map cellN).take (placeN (sortN pre) x) ++ .int .i64 ((x : Nat) : Int) :: ((sortN pre).map cellN).drop (placeN (sortN pre) x))) :
    W.ownsRow n0 3 1 (.slice (some ⟨g, 0, none⟩) (((sortN pre).map cellN).length + 1) cap) (sortN (pre ++ [x])).length ((sortN (pre ++ [x])).map cellN) := by
  have e1 : (sortN (pre ++ [x])).length = ((sortN pre).map cellN).length + 1 := by rw [sortN_snoc, insN_len, List.length_map]
  have e2 : (sortN (pre ++ [x])).map cellN = ((sortN pre).map cellN).take (placeN (sortN pre) x) ++ .int .i64 ((x : Nat) : Int) :: ((sortN pre).map cellN).drop (placeN (sortN pre) x) := by
    rw [sortN_snoc]
    unfold insN
    rw [List.map_append, List.map_cons, List.map_take, List.map_drop]
  rw [e1, e2]
  exact h
theorem keepO_put {W w5 w7 : World} {bb n0 g' n' cap' k : Nat} {v : Value} {o : Obj} {xs : List Value} (hh : w5.heap = W.heap) (hB : Boxed W bb 24 v) (_hB5 : Boxed w5 bb 24 v) (hr : w5.ownsRow n0 3 1 v k xs) (hg : (w5.alloc o).grownBy w7 v.ownBlock)
    (hat : (Value.slice (some ⟨g', 0, none⟩) n' cap').ownBlock = v.ownBlock ∨ (Value.slice (some ⟨g', 0, none⟩) n' cap').ownBlock = some (w5.alloc o).heap.size) (hv2 : Boxed (w7.setCell ⟨bb, 0, none⟩ (.slice (some ⟨g', 0, none⟩) n' cap')) bb 24 (.slice (some ⟨g', 0, none⟩) n' cap')) :
    KeepO (ownB bb) W (w7.setCell ⟨bb, 0, none⟩ (.slice (some ⟨g', 0, none⟩) n' cap')) := by
  have hs5 : w5.heap.size = W.heap.size := by rw [hh]
  have hsA : (w5.alloc o).heap.size = W.heap.size + 1 := by rw [World.size_alloc, hs5]
  refine ⟨by have h1 := hg.size; rw [hsA] at h1; have h2 := (KeepsOthers.setCell w7 ⟨bb, 0, none⟩ (.slice (some ⟨g', 0, none⟩) n' cap')).size; omega, fun p v0 hp hno => ?_⟩
  have hlt := World.block_lt_of_cell? _ _ hp
  have hne1 : p.block ≠ bb := fun e => hno (.inl e)
  have hne2 : some p.block ≠ v.ownBlock := fun e => by
    rcases hr.2 with ⟨rfl, _⟩ | ⟨g, cap, cur, rfl, _⟩
    · cases e
    · have e1 : p.block = g := by simpa [Value.ownBlock] using e
      exact hno (.inr ⟨⟨g, 0, none⟩, k, cap, hB.cell, e1.symm⟩)
  have hb : (w7.setCell ⟨bb, 0, none⟩ (.slice (some ⟨g', 0, none⟩) n' cap')).heap[p.block]? = W.heap[p.block]? := by
    rw [Below.heap_setCell w7 ⟨bb, 0, none⟩ _ p.block hne1, hg.block p.block (by omega) hne2, Below.heap_alloc w5 o p.block (by omega), hh]
  refine ⟨(World.cell?_of_block hb).trans hp, fun e => ?_⟩
  rcases e with e | ⟨a, n, c, e1, e2⟩
  · exact hne1 e
  · rw [hv2.cell] at e1
    cases e1
    rcases hat with h | h
    · exact hne2 (by rw [← h, ← e2]; rfl)
    · have h9 : g' = (w5.alloc o).heap.size := by simpa [Value.ownBlock] using h
      have e2 : g' = p.block := e2
      omega

set_option maxRecDepth 100000 in
set_option maxHeartbeats 4000000 in
theorem BlocksOf_any {w : World} {B : Nat} {ua : Option Addr} {l : Lay} {m : Mx} {na : Option Addr} {g o k nc : Nat} {z : Nat → Int} (h : LogAt w B ua l m na g o k z) (hT : TabOk w) :
    Calls Tryd.prog 12 #[.agg #[.slice ua m.n l.cap, .slice na k nc]] w (ListRes w (blocksV m k z)) := by
  have hX := BoxN.start w #[.slice ua m.n l.cap, .slice na k nc] 26
  have q0 := hX.cell 0 rfl
  have q1 := hX.cell 1 rfl
  have bw := hX.below
  have h2 := Lib.hid (h.step bw)
  have HT2 := Lib.hid (hT.step bw hT.size)
  have htz := hT.size
  have hrow2 : Hid (RowAt (w.alloc (.cells #[.slice ua m.n l.cap, .slice na k nc] 26)) (w.alloc (.cells #[.slice ua m.n l.cap, .slice na k nc] 26)).heap.size none 0 0 0 (fun _ => 0)) := ⟨fun c hc => absurd hc (Nat.not_lt_zero _)⟩
  clear h hT hX
  refine (callsIn_wide (n := 9)).1 ?_
  refine callsIn_of_wp_marks Tryd.func12 rfl trivial ?_ rfl
  simp only [Tryd.ntmps12, List.size_toArray, List.length_cons, List.length_nil, Nat.reduceAdd, Nat.reduceSub, Array.replicate_succ, Array.replicate_zero, List.push_toArray, List.append_toArray, List.nil_append, List.cons_append]
  gi_wp2_with fail
  generalize hW : (w.alloc (.cells #[.slice ua m.n l.cap, .slice na k nc] 26)) = W at bw h2 HT2 q0 q1 hrow2 ⊢
  clear hW
  refine ⟨trivial, ?_⟩
  refine (callsIn_wide.2 (algebraWith_any h2.out hrow2.out (by omega))).mono ?_
  rintro e w1 ⟨b1, (⟨hg, ob, tb, tG, rfl, hA⟩ | ⟨hg, rfl⟩)⟩
  · have hlog : logicB m k z = true := by rw [good_nil, Bool.and_true] at hg; exact hg
    have B1 := bw.trans (b1.mono bw.size)
    have h3 := h2.out.step b1
    have HT3 := Lib.hid (HT2.out.step b1 HT2.out.size)
    have s1 := b1.size
    have sw := bw.size
    obtain ⟨y0, n0, hO0⟩ := (logicB_is hlog).ortho
    have hkn : k = m.n := (logicB_is hlog).pair.len
    subst hkn
    have hO := hO0.own
    obtain ⟨y, hy⟩ : ∃ y : Nat → Nat, y = fun c => (z c).toNat := ⟨_, rfl⟩
    rw [← hy] at hO
    obtain ⟨rfl, hL1⟩ := AL.of hA h3 hO
    have hn := hO.lat.order.top
    have HV : Hid ((sortN (allL m y)).map (fun c => ((c : Nat) : Int)) = blocksV m m.n z) := by
      show _ = _
      unfold blocksV
      rw [if_pos hlog, hO.sort_all hn, hy]
    have HO := Lib.hid hO
    have hY := BoxN.start w1 #[.slice ua m.n l.cap, .slice (some ⟨g, o, none⟩) m.n nc, .slice (some ⟨ob, 0, none⟩) 2 2] 52
    have f1 : (w1.alloc (.cells #[.slice ua m.n l.cap, .slice (some ⟨g, o, none⟩) m.n nc, .slice (some ⟨ob, 0, none⟩) 2 2] 52)).heap.size = w1.heap.size + 1 := World.size_alloc _ _
    have bC := (Below.refl (w1.alloc (.cells #[.slice ua m.n l.cap, .slice (some ⟨g, o, none⟩) m.n nc, .slice (some ⟨ob, 0, none⟩) 2 2] 52)).heap.size (w1.alloc (.cells #[.slice ua m.n l.cap, .slice (some ⟨g, o, none⟩) m.n nc, .slice (some ⟨ob, 0, none⟩) 2 2] 52))).alloc (Nat.le_refl _) (.cells #[.slice none 0 0] 24)
    have hYC := hY.step bC
    have cc : Boxed ((w1.alloc (.cells #[.slice ua m.n l.cap, .slice (some ⟨g, o, none⟩) m.n nc, .slice (some ⟨ob, 0, none⟩) 2 2] 52)).alloc (.cells #[.slice none 0 0] 24)) (w1.heap.size + 1) 24 (.slice none 0 0) := by rw [← f1]; exact Boxed.new _ _ _
    have bV : Below w1.heap.size w1 ((w1.alloc (.cells #[.slice ua m.n l.cap, .slice (some ⟨g, o, none⟩) m.n nc, .slice (some ⟨ob, 0, none⟩) 2 2] 52)).alloc (.cells #[.slice none 0 0] 24)) := hYC.below
    have BY := B1.trans (bV.mono B1.size)
    have hL := Lib.hid (hL1.step bV)
    have HT4 := Lib.hid (HT3.out.step bV HT3.out.size)
    have r0 := hYC.cell 0 rfl
    have r1 := hYC.cell 1 rfl
    have r2 := hYC.cell 2 rfl
    have f2 : ((w1.alloc (.cells #[.slice ua m.n l.cap, .slice (some ⟨g, o, none⟩) m.n nc, .slice (some ⟨ob, 0, none⟩) 2 2] 52)).alloc (.cells #[.slice none 0 0] 24)).heap.size = w1.heap.size + 1 + 1 := by rw [World.size_alloc, f1]
    have CC := Lib.hid cc
    clear hg hlog hA h3 hO hO0 hL1 HT3 h2 hrow2 q0 q1 bw HT2 b1 hy hY bC hYC bV cc
    unfold algV
    gi_wp2_with fail
    generalize hW : ((w1.alloc (.cells #[.slice ua m.n l.cap, .slice (some ⟨g, o, none⟩) m.n nc, .slice (some ⟨ob, 0, none⟩) 2 2] 52)).alloc (.cells #[.slice none 0 0] 24)) = W4 at CC BY hL HT4 r0 r1 r2 f2 ⊢
    clear hW f1
    refine ⟨trivial, ?_⟩
    refine (callsIn_wide.2 (company_any (nc := nc) hL.out)).mono ?_
    rintro e w3 ⟨mb, rfl, hC, b3, hmb⟩
    have s3 := b3.size
    have HC := Lib.hid hC
    have HT5 := Lib.hid (HT4.out.step b3 HT4.out.size)
    have BY3 := BY.trans (b3.mono BY.size)
    have CC3 : Hid (Boxed w3 (w1.heap.size + 1) 24 (.slice none 0 0)) := Lib.hid (CC.out.kept (grown_below b3) (by simp))
    clear r0 r1 r2 hL HT4 hC CC BY b3
    gi_wp2_with fail
    refine ⟨trivial, ?_⟩
    refine (callsIn_wide.2 (allBlocks_any _ _ _ _)).mono ?_
    rintro e w4 ⟨rfl, hw4⟩
    have b4 := blocks_world hw4
    have s4 := b4.size
    have BY4 := BY3.trans (b4.mono BY3.size)
    have CC4 : Hid (Boxed w4 (w1.heap.size + 1) 24 (.slice none 0 0)) := Lib.hid (CC3.out.kept (grown_below b4) (by simp))
    have HW4 := Lib.hid hw4
    clear CC3 BY3 b4 hw4
    gi_wp2_with fail
    have how : Ow (ownB (w1.heap.size + 1)) w4.heap.size := ownB_ow (by omega)
    have hno : ∀ k, k ≠ w1.heap.size + 1 → ¬ ownB (w1.heap.size + 1) w4 k := fun k hk e => by
      rcases e with e | ⟨a, n, c, e1, _⟩
      · exact hk e
      · rw [CC4.out.cell] at e1; cases e1
    have hSeq : SeqL (ownB (w1.heap.size + 1)) 76 #[.pointer (some ⟨w3.heap.size, 0, none⟩), .pointer (some ⟨w3.heap.size + 1, 0, none⟩), .pointer (some ⟨w3.heap.size + 1 + 1, 0, none⟩)] (allL m y) w4 :=
      all_seq HO.out HC.out HT5.out HW4.out how (hno _ (by omega)) (hno _ (by omega)) (hno _ (by omega)) (hno _ (by omega)) (hno _ (by omega))
    have hll := HO.out.allL_len hn
    have HND := Lib.hid (HO.out.allL_nodup hn)
    clear HC HT5 HW4 hno
    refine wpIn_rangeL (own := ownB (w1.heap.size + 1)) (L := allL m y) (gf := 76) (lb := #[.pointer (some ⟨w3.heap.size, 0, none⟩), .pointer (some ⟨w3.heap.size + 1, 0, none⟩), .pointer (some ⟨w3.heap.size + 1 + 1, 0, none⟩)]) rfl (enters_of Tryd.func76 (by kernel_rfl) rfl)
      how hSeq rfl
      (fun pre W => (∃ v, Boxed W (w1.heap.size + 1) 24 v ∧ W.ownsRow w.heap.size 3 1 v (sortN pre).length ((sortN pre).map cellN) ∧ True) ∧ Below w.heap.size w W)
      (fun _ _ _ => False)
      (OwnFrom.and (Own.from (holdsRow_own w.heap.size (w1.heap.size + 1) 24 3 1 (fun pre => (sortN pre).length) (fun pre => (sortN pre).map cellN) (fun _ _ => True)) _) (ownFrom_below (Nat.le_refl _) BY4.size))
      (fun c => ownFrom_pure _ _)
      (fun pre W k hI hk => by
        obtain ⟨⟨v, hv, hr, _⟩, _⟩ := hI
        rcases hk with hk | ⟨a, n, c, e1, e2⟩
        · rw [hk]; exact hv.lt
        · rw [hv.cell] at e1
          cases e1
          exact (hr.lt k (by rw [← e2]; rfl)).2)
      ⟨⟨_, CC4.out, World.ownsRow_nil _ _ _ _, trivial⟩, BY4⟩
      (fun x => { tmps := #[.agg #[.slice ua m.n l.cap, .slice (some ⟨g, o, none⟩) m.n nc], .pointer (some ⟨w.heap.size, 0, none⟩), .slice none 0 0, .pointer (some ⟨w1.heap.size, 0, none⟩), .bool true, .pointer (some ⟨w1.heap.size + 1, 0, none⟩), .int .i64 ((x : Nat) : Int), undef, undef,
        .tuple #[.agg #[.slice ua m.n l.cap, .slice (some ⟨g, o, none⟩) m.n nc, .slice (some ⟨ob, 0, none⟩) 2 2], .bool true], .agg #[.slice ua m.n l.cap, .slice (some ⟨g, o, none⟩) m.n nc], .tuple #[.agg #[.slice ua m.n l.cap, .slice (some ⟨g, o, none⟩) m.n nc, .slice (some ⟨ob, 0, none⟩) 2 2], .bool true], .agg #[.slice ua m.n l.cap, .slice (some ⟨g, o, none⟩) m.n nc, .slice (some ⟨ob, 0, none⟩) 2 2], .bool true, .bool true, .bool false, .agg #[.slice ua m.n l.cap, .slice (some ⟨g, o, none⟩) m.n nc, .slice (some ⟨ob, 0, none⟩) 2 2], .slice (some ⟨mb, 0, none⟩) m.n m.n, blkF w3.heap.size,
        .int .i64 ((x : Nat) : Int), undef, undef, undef, undef, undef, undef, undef, undef, undef, undef, undef, undef], defers := [] }) ?assign ?body ?done ?stop
    case assign =>
      intro m' l2 x W' K' hK'
      dsimp only
      clear hSeq HND HO HV how CC4 BY4
      gi_wp2
      exact hK'
    case body =>
      rintro m' l2 pre x W _ ⟨⟨v, hv, hr, _⟩, hB⟩ hpx
      obtain ⟨hx1, hx2⟩ := pre_facts hpx
      have hpn : (pre ++ [x]).Pairwise (· ≠ ·) := by
        obtain ⟨tl, htl⟩ := hpx
        have := HND.out
        rw [← htl] at this
        exact (List.pairwise_append.1 this).1
      have hpre := (List.pairwise_append.1 hpn).1
      obtain ⟨hup, hmem⟩ := sortN_is pre hpre
      have hsl : (sortN pre).length ≤ 4096 := by rw [sortN_len]; omega
      have hbW : w.heap.size ≤ w4.heap.size := BY4.size
      have hcv := hv.cell
      have hR := Lib.hid hr
      have HBx := Lib.hid hv
      have HUp := Lib.hid hup
      have sW := hB.size
      have hbb := hv.lt
      clear hSeq HND HO HV CC4 BY4 hll hpx hx1 hx2 hr hv hup hmem hpn hpre
      try dsimp only
      gi_wp2_with fail
      refine ⟨trivial, fun h => (by cases h), ?_⟩
      refine (CallsIn.inRound l2 (callsIn_wide.2 (search_any hR.out HUp.out (by omega) x))).mono ?_
      rintro e w5 ⟨bq, q, rfl, hw5⟩
      have hcv5 : w5.cell? ⟨w1.heap.size + 1, 0, none⟩ = some v := by rw [hw5]; exact hcv
      have HH5 : Hid (w5.heap = W.heap) := by show _ = _; rw [hw5]; rfl
      have HW5 := Lib.hid hw5
      clear hw5 hcv
      have hr5 : w5.ownsRow w.heap.size 3 1 v (sortN pre).length ((sortN pre).map cellN) := by rw [HW5.out]; exact hR.out
      have HR5 := Lib.hid hr5
      clear hr5
      gi_wp2_with fail
      refine ⟨trivial, fun h => (by cases h), ?_⟩
      have hown6 : (w5.alloc (.cells #[.int .i64 ((x : Nat) : Int)] 3)).ownsRow w.heap.size 3 1 v ((sortN pre).map cellN).length ((sortN pre).map cellN) := by rw [List.length_map]; exact World.ownsRow.alloc HR5.out _
      refine (CallsIn.inRound l2 (callsIn_wide.2 (insert_any (base := w.heap.size) (vb := w5.heap.size) (x := .int .i64 ((x : Nat) : Int)) (i := placeN (sortN pre) x) hown6 (fun u hu => by obtain ⟨c, _, rfl⟩ := List.mem_map.1 hu; rfl) (by rw [List.length_map]; omega) (by rw [List.length_map]; exact placeN_le _ _) rfl (fun k hk => by have := (HR5.out.lt k hk).2; omega) (World.alloc_heap_new w5 _) (by rw [World.size_alloc, HH5.out]; omega)))).mono ?_
      rintro e w7 ⟨v', rfl, hown7, hgr7, hat7⟩
      obtain ⟨g', cap', rfl⟩ := ownsRow_succ hown7
      have hv5 : Boxed w5 (w1.heap.size + 1) 24 v := by show w5.heap[_]? = _; rw [HH5.out]; exact HBx.out
      obtain ⟨hv1, hv2, hr2, hk2, hb2⟩ := Boxed.appended hv5 (by decide) HR5.out (by rw [HH5.out]; omega) (show w.heap.size ≤ w1.heap.size + 1 by omega) hown7 hgr7
      have HKO := Lib.hid (keepO_put HH5.out HBx.out hv5 HR5.out hgr7 hat7 hv2)
      have HV2 := Lib.hid hv2
      have HR2 := Lib.hid (put_row hr2)
      have HK2 := Lib.hid hk2
      have HB2 := Lib.hid hb2
      simp only [List.length_map] at HKO HV2 HR2 HK2 HB2
      have hc1 := hv1.cell
      have hf1 := hv1.frozen
      clear hown6 hown7 hgr7 hat7 hv1 hv2 hr2 hk2 hb2 hv5 hcv5 HR5
      gi_wp2_with fail
      refine ⟨KeepsFrom.trans ⟨by rw [HH5.out]; exact Nat.le_refl _, fun k o _ hk _ => by rw [HH5.out]; exact hk⟩ (HK2.out.from _), HKO.out, ⟨_, HV2.out, HR2.out, trivial⟩, ?_⟩
      have h9 : Below w.heap.size W w5 := by rw [HW5.out]; exact below_drewN (Below.refl _ _) _
      exact (hB.trans h9).trans HB2.out
    case done =>
      rintro D W hD ⟨⟨v, hv, hr, _⟩, hB⟩ hDf
      have hDs : w.heap.size ≤ D := Nat.le_trans BY4.size hD
      have hcv := hv.cell
      have hR := Lib.hid (ownsRow_putObj hr (.deferred none) hDf rfl)
      clear hSeq HND HO how CC4 hll hr hv
      gi_wp2_with fail
      refine ⟨by simp, .inl ⟨_, _, rfl, run_takeDeferred hDf, ?_⟩⟩
      refine ⟨v, ?_, ⟨v, rfl, ?_, hB.trans (belowK_b (w := w) (Nat.le_refl _) W D _ _ hDs hDf rfl rfl)⟩⟩
      · simp [results, Tryd.f12, go_sem]
      · rw [← HV.out]
        have := hR.out
        rw [List.length_map, List.map_map]
        exact this
    case stop =>
      rintro D c pre W hD hF hDf
      exact hF.elim
  · have HV : Hid (blocksV m k z = []) := by show _ = _; unfold blocksV; rw [good_nil, Bool.and_true] at hg; rw [hg]; rfl
    have B1 := bw.trans (b1.mono bw.size)
    have B2 := B1.alloc B1.size (.cells #[.slice none 0 0, .slice none 0 0, .slice none 0 0] 52)
    clear h2 hrow2 q0 q1 bw hg HT2
    unfold noAlg
    gi_wp2_with fail
    refine ⟨.slice none 0 0, ?_, ⟨_, rfl, by rw [HV.out]; exact World.ownsRow_nil _ _ _ _, B2⟩⟩
    simp [results, Tryd.f12, go_sem]
end Go.Proofs.YtjmhhjdkemicbaaDoor
