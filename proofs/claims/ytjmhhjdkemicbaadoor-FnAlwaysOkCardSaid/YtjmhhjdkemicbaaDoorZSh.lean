import Derived.Test.YtjmhhjdkemicbaaDoorZKi
import Derived.Shelf.Spec.SlicesInsertGrow
import Derived.Shelf.Slices.Empties
namespace Go.Proofs.YtjmhhjdkemicbaaDoor
open Go.RowKit Go.Deep Go.Shelf Go.Lib

def laysI_ren : Go.Shelf.Ren := ⟨fun | 21 => 33 | 27 => 61 | 28 => 62 | 35 => 80 | 39 => 86 | n => n, fun | 0 => 0 | 3 => 3 | 4 => 4 | 22 => 24 | n => n, fun n => n⟩
theorem laysI : Lays2.n21 Tryd.prog laysI_ren :=
  { mixed := by kernel_rfl
    f21 := Tryd.func33.trans (congrArg some (by kernel_rfl))
    f27 := Tryd.func61.trans (congrArg some (by kernel_rfl))
    f28 := Tryd.func62.trans (congrArg some (by kernel_rfl))
    f35 := Tryd.func80.trans (congrArg some (by kernel_rfl))
    f39 := Tryd.func86.trans (congrArg some (by kernel_rfl))
    t0 := Tryd.underlying0
    a0 := Tryd.isAgg0
    z0 := Tryd.sizeOf0
    v0 := Tryd.zeroValue0
    t3 := Tryd.underlying3
    a3 := Tryd.isAgg3
    z3 := Tryd.sizeOf3
    v3 := Tryd.zeroValue3
    t4 := Tryd.underlying4
    a4 := Tryd.isAgg4
    z4 := Tryd.sizeOf4
    v4 := Tryd.zeroValue4
    t22 := Tryd.underlying24
    a22 := Tryd.isAgg24
    z22 := Tryd.sizeOf24
    v22 := Tryd.zeroValue24
    i3 := by kernel_rfl }
def laysS_ren : Go.Shelf.Ren := ⟨fun | 25 => 32 | 31 => 59 | 32 => 60 | 37 => 79 | n => n, fun | 0 => 0 | 3 => 3 | 4 => 4 | 22 => 24 | 40 => 99 | n => n, fun n => n⟩
theorem laysS : Lays2.n25 Tryd.prog laysS_ren :=
  { mixed := by kernel_rfl
    f25 := Tryd.func32.trans (congrArg some (by kernel_rfl))
    f31 := Tryd.func59.trans (congrArg some (by kernel_rfl))
    f32 := Tryd.func60.trans (congrArg some (by kernel_rfl))
    f37 := Tryd.func79.trans (congrArg some (by kernel_rfl))
    t0 := Tryd.underlying0
    a0 := Tryd.isAgg0
    z0 := Tryd.sizeOf0
    v0 := Tryd.zeroValue0
    t3 := Tryd.underlying3
    a3 := Tryd.isAgg3
    z3 := Tryd.sizeOf3
    v3 := Tryd.zeroValue3
    t4 := Tryd.underlying4
    a4 := Tryd.isAgg4
    z4 := Tryd.sizeOf4
    v4 := Tryd.zeroValue4
    t22 := Tryd.underlying24
    a22 := Tryd.isAgg24
    z22 := Tryd.sizeOf24
    v22 := Tryd.zeroValue24
    t40 := Tryd.underlying99
    a40 := Tryd.isAgg99
    z40 := Tryd.sizeOf99
    v40 := Tryd.zeroValue99 }

theorem heap_setCells {g : Nat} {e : TypeId} : ∀ (vs : List Value) (o : Nat) (w : World) (cur : Array Value), w.heap[g]? = some (.cells cur e (0, 0)) → ∃ cur', (w.setCells g o vs).heap[g]? = some (.cells cur' e (0, 0)) ∧ cur'.size = cur.size := by
  intro vs
  induction vs with
  | nil => intro o w cur h; exact ⟨cur, h, rfl⟩
  | cons v r ih =>
    intro o w cur h
    obtain ⟨c2, h1, h2⟩ := ih (o + 1) (w.setCell ⟨g, o, none⟩ v) _ (heap_setCell_same w g o cur e v h)
    exact ⟨c2, h1, by rw [h2]; simp⟩
theorem grown_setCells {g : Nat} : ∀ (vs : List Value) (o : Nat) (w : World), w.grownBy (w.setCells g o vs) (some g) := by
  intro vs
  induction vs with
  | nil => intro o w; exact ⟨rfl, rfl, rfl, Nat.le_refl _, fun _ _ _ => rfl⟩
  | cons v r ih =>
    intro o w
    have h := ih (o + 1) (w.setCell ⟨g, o, none⟩ v)
    have hs : (w.setCell ⟨g, o, none⟩ v).heap.size = w.heap.size := by simp
    exact ⟨h.os, h.tape, h.output, by have := h.size; rw [hs] at this; exact this, fun k hk hne => (h.block k (by rw [hs]; exact hk) hne).trans (heap_setCell_other w ⟨g, o, none⟩ k v (fun e => hne (by simp [e])))⟩
theorem ownsRow_cells {w : World} {base g n cap : Nat} {e : TypeId} {cur : Array Value} {xs : List Value} (hb : base ≤ g) (hh : w.heap[g]? = some (.cells cur e (0, 0))) (hn : n ≤ cap) (hc : cap ≤ maxLen) (hs : cur.size = cap) (hx : xs.length = n)
    (hcell : ∀ j, j < n → w.cell? ⟨g, j, none⟩ = xs[j]?) : w.ownsRow base e 1 (.slice (some ⟨g, 0, none⟩) n cap) n xs := by
  refine ⟨by rw [hx, Nat.mul_one], .inr ⟨g, cap, cur, rfl, hb, hh, hn, hc, by rw [hs, Nat.mul_one], ?_⟩⟩
  rw [Nat.mul_one]
  apply List.ext_getElem?
  intro j
  by_cases hj : j < n
  · rw [List.getElem?_take_of_lt hj, ← hcell j hj, Array.getElem?_toList]
    simp [World.cell?, hh]
  · rw [List.getElem?_take_eq_none (by omega), List.getElem?_eq_none (by omega)]
theorem of_drew {w w' : World} {row : Option Nat} (h : w.drew.grownBy w' row) : w.grownBy w' row := ⟨h.os, h.tape, h.output, h.size, h.block⟩
theorem ins_get {xs : List Value} {x : Value} {i j : Nat} (hi : i ≤ xs.length) : (xs.take i ++ x :: xs.drop i)[j]? = if j < i then xs[j]? else if j = i then some x else xs[j - 1]? := by
  have hl : (xs.take i).length = i := by rw [List.length_take]; omega
  split
  · next h => rw [List.getElem?_append_left (by omega), List.getElem?_take_of_lt h]
  · next h =>
    rw [List.getElem?_append_right (by omega), hl]
    split
    · next h2 => subst h2; simp
    · next h2 =>
      obtain ⟨d, hd⟩ : ∃ d, j - i = d + 1 := ⟨j - i - 1, by omega⟩
      rw [hd, List.getElem?_cons_succ, List.getElem?_drop]
      congr 1
      omega
theorem ins_len {xs : List Value} {x : Value} {i : Nat} (hi : i ≤ xs.length) : (xs.take i ++ x :: xs.drop i).length = xs.length + 1 := by
  rw [List.length_append, List.length_cons, List.length_take, List.length_drop]
  omega

set_option maxHeartbeats 1000000 in
/-- Insert of one number into a slice of the call's own: a slice of the call's own again, the number in its place. -/
theorem insert_any {w : World} {base : Nat} {v : Value} {xs : List Value} (hrow : w.ownsRow base 3 1 v xs.length xs) (h1 : ∀ u ∈ xs, u.oneCell' = true) (hlen : xs.length ≤ 5000) {i : Nat} (hi : i ≤ xs.length) {vb : Nat} {x : Value} (hx : x.oneCell' = true)
    (hvb : ∀ k, v.ownBlock = some k → k ≠ vb) (hc : w.heap[vb]? = some (.cells #[x] 3 (0, 0))) (hbase : base ≤ w.heap.size) :
    Calls Tryd.prog 33 #[v, .int .i64 (i : Int), .slice (some ⟨vb, 0, none⟩) 1 1] w fun e w' => ∃ v', e = .returned v' ∧ w'.ownsRow base 3 1 v' (xs.length + 1) (xs.take i ++ x :: xs.drop i) ∧ w.grownBy w' v.ownBlock ∧ (v'.ownBlock = v.ownBlock ∨ v'.ownBlock = some w.heap.size) := by
  have hvx : ∀ j u, [x][j]? = some u → w.cell? ⟨vb, 0 + j, none⟩ = some u := fun j u hj => by
    cases j with
    | zero => have e : x = u := by simpa using hj
              subst e; simp [World.cell?, hc]
    | succ j => simp at hj
  have h1v : ∀ u ∈ [x], u.oneCell' = true := fun u hu => by
    have e : u = x := by simpa using hu
    rw [e]; exact hx
  rcases hrow.2 with ⟨rfl, h0⟩ | ⟨g, cap, cur, rfl, hbg, hh, hncap, hcap, hcs, htk⟩
  · have e0 : xs = [] := List.eq_nil_of_length_eq_zero h0
    subst e0
    obtain rfl : i = 0 := by simpa using hi
    have hC := Any2.slices_Insert_int_end_grow laysI none 0 0 vb 0 1 1 [] [x] w (by omega) (Nat.le_refl _) (by omega) (by omega) rfl rfl (fun _ => rfl) (fun _ h => by cases h) hvx h1v
    refine hC.mono ?_
    rintro e w' ⟨rfl, rfl⟩
    have hG := grownCap_ge w (0 + 1) 0 3
    have hM := grownCap_le_maxLen w (0 + 1) 0 3 (by unfold maxLen; omega)
    refine ⟨_, rfl, ⟨by simp, .inr ⟨w.heap.size, _, _, rfl, hbase, World.alloc_heap_new w.drew _, hG, hM, ?_, ?_⟩⟩, of_drew (World.grownBy_alloc w.drew _ _), .inr rfl⟩
    · simp [Builtin.zeroCells, Value.cells]
      show 1 + (grownCap w (0 + 1) 0 3 - 1) = grownCap w (0 + 1) 0 3
      omega
    · simp
  · have hcell : ∀ j u, xs[j]? = some u → w.cell? ⟨g, 0 + j, none⟩ = some u := fun j u hj => by
      have e := hrow.cells (g := g) rfl j u hj
      rw [Addr.add_lit] at e
      exact e
    have hcur : ∀ j, w.cell? ⟨g, j, none⟩ = cur[j]? := fun j => by simp [World.cell?, hh]
    have hsome : ∀ j, j < cap → (w.cell? ⟨g, j, none⟩).isSome = true := fun j hj => by
      rw [hcur, Array.getElem?_eq_getElem (by omega)]; rfl
    have hfz : ∀ j, w.frozen? ⟨g, j, none⟩ = false := fun j => by simp [World.frozen?, hh]
    have hxn : ∀ j, j < xs.length → w.cell? ⟨g, j, none⟩ = xs[j]? := fun j hj => by
      have e := hcell j xs[j] (List.getElem?_eq_getElem hj)
      rw [Nat.zero_add] at e
      rw [e, List.getElem?_eq_getElem hj]
    have hne : g ≠ vb := hvb g rfl
    have hgw : g < w.heap.size := (Array.getElem?_eq_some_iff.1 hh).1
    have hvw : vb < w.heap.size := (Array.getElem?_eq_some_iff.1 hc).1
    have hc63 : cap ≤ 9223372036854775807 := by have := hcap; unfold maxLen at this; omega
    by_cases hin : i = xs.length
    · subst hin
      have el : xs.take xs.length ++ x :: xs.drop xs.length = xs ++ [x] := by simp
      rw [el]
      by_cases hroom : xs.length + 1 ≤ cap
      · have hC := Any2.slices_Insert_int_end_room laysI g 0 xs.length cap vb 0 1 1 [x] w (by omega) hroom hc63 rfl (fun j hj => by rw [Nat.zero_add]; exact hsome _ (by omega)) (fun j _ => hfz _) hvx h1v
        refine hC.mono ?_
        rintro e w' ⟨rfl, rfl⟩
        obtain ⟨c2, h2, h3⟩ := heap_setCells [x] (0 + xs.length) w cur hh
        refine ⟨_, rfl, ownsRow_cells hbg h2 hroom hcap (by rw [h3, hcs]; omega) (by simp) fun j hj => ?_, grown_setCells _ _ _, .inl rfl⟩
        by_cases hj2 : j = xs.length
        · subst hj2
          have e := World.cell?_setCells_in g [x] (0 + xs.length) w (fun j hj => by simp at hj; subst hj; exact hsome _ (by omega)) 0 (by simp)
          simp only [Nat.zero_add, Nat.add_zero] at e
          rw [Nat.zero_add, e]
          simp
        · rw [World.cell?_setCells_out g [x] (0 + xs.length) w ⟨g, j, none⟩ (fun _ _ => by show j < _ ∨ _ ≤ j; simp; omega), hxn j (by omega), List.getElem?_append_left (by omega)]
      · have hC := Any2.slices_Insert_int_end_grow laysI (some ⟨g, 0, none⟩) xs.length cap vb 0 1 1 xs [x] w (by omega) hncap (by omega) (by omega) rfl rfl (fun h => by cases h) (fun a ha j u hj => by cases ha; exact hrow.cells (g := g) rfl j u hj) hvx h1v
        refine hC.mono ?_
        rintro e w' ⟨rfl, rfl⟩
        have hG := grownCap_ge w (xs.length + 1) cap 3
        have hM := grownCap_le_maxLen w (xs.length + 1) cap 3 (by unfold maxLen; omega)
        refine ⟨_, rfl, ⟨by simp, .inr ⟨w.heap.size, _, _, rfl, hbase, World.alloc_heap_new w.drew _, hG, hM, ?_, ?_⟩⟩, of_drew (World.grownBy_alloc w.drew _ _), .inr rfl⟩
        · simp [Builtin.zeroCells, Value.cells]
          show xs.length + 1 + (grownCap w (xs.length + 1) cap 3 - (xs.length + 1)) = grownCap w (xs.length + 1) cap 3
          omega
        · rw [Array.toList_append, Nat.mul_one]
          exact List.take_left' (by simp)
    · have hilt : i < xs.length := by omega
      by_cases hroom : xs.length + 1 ≤ cap
      · have hC := Any2.slices_Insert_int_shift laysI g 0 xs.length cap i vb 0 1 1 xs [x] w hilt (by omega) hroom hc63 (fun e => hne e.symm) rfl rfl hcell (fun j hj => by rw [Nat.zero_add]; exact hsome _ (by omega)) (fun j _ => hfz _) hvx h1 h1v
          3 3 1 cur.size (by simp [World.shape?, hc]) (by simp [World.shape?, hh]) (by omega) (by simp [World.frozen?, hc]) (by simp [World.frozen?, hc])
        refine hC.mono ?_
        rintro e w' ⟨rfl, rfl⟩
        obtain ⟨c1, h11, h12⟩ := heap_setCells (xs.drop i) (0 + (i + 1)) w.drew cur hh
        obtain ⟨c2, h2, h3⟩ := heap_setCells [x] (0 + i) _ c1 h11
        have s1 : ∀ j, j < cap → ((w.drew.setCells g (0 + (i + 1)) (xs.drop i)).cell? ⟨g, j, none⟩).isSome = true := fun j hj => isSome_setCells g _ _ _ (fun k hk => by rw [List.length_drop] at hk; exact hsome _ (by omega)) j (hsome j hj)
        refine ⟨_, rfl, ownsRow_cells hbg h2 hroom hcap (by rw [h3, h12, hcs]; omega) (ins_len (by omega)) fun j hj => ?_, (of_drew (grown_setCells _ _ _)).trans (grown_setCells _ _ _), .inl rfl⟩
        rw [ins_get (by omega)]
        by_cases hj2 : j = i
        · subst hj2
          have e := World.cell?_setCells_in g [x] (0 + j) (w.drew.setCells g (0 + (j + 1)) (xs.drop j)) (fun k hk => by simp at hk; subst hk; exact s1 _ (by omega)) 0 (by simp)
          simp only [Nat.zero_add, Nat.add_zero] at e
          simp only [Nat.zero_add]
          rw [e]
          simp
        · rw [World.cell?_setCells_out g [x] (0 + i) _ ⟨g, j, none⟩ (fun _ _ => by show j < _ ∨ _ ≤ j; simp; omega)]
          by_cases hj3 : j < i
          · rw [World.cell?_setCells_out g (xs.drop i) (0 + (i + 1)) _ ⟨g, j, none⟩ (fun _ _ => by show j < _ ∨ _ ≤ j; omega), if_pos hj3]
            exact hxn j (by omega)
          · rw [if_neg hj3, if_neg hj2]
            have e := World.cell?_setCells_in g (xs.drop i) (0 + (i + 1)) w.drew (fun k hk => by rw [List.length_drop] at hk; exact hsome _ (by omega)) (j - (i + 1)) (by rw [List.length_drop]; omega)
            rw [show 0 + (i + 1) + (j - (i + 1)) = j by omega] at e
            rw [e, List.getElem_drop, ← List.getElem?_eq_getElem]
            congr 1
            omega
      · have hC := Any2.slices_Insert_int_grow laysI g 0 xs.length cap i vb 0 1 1 xs [x] w hilt (by omega) hncap (by omega) (by omega) rfl rfl hcell hvx h1 h1v
        refine hC.mono ?_
        rintro e w' ⟨rfl, rfl⟩
        have hG := grownCap_ge w (xs.length + 1) cap 3
        have hM := grownCap_le_maxLen w (xs.length + 1) cap 3 (by unfold maxLen; omega)
        obtain ⟨G, hGe⟩ : ∃ G, grownCap w (xs.length + 1) cap 3 = G := ⟨_, rfl⟩
        rw [hGe] at hG hM
        show ∃ v', Ending.returned (.slice (some ⟨w.heap.size, 0, none⟩) (xs.length + 1) (grownCap w (xs.length + 1) cap 3)) = .returned v' ∧ _
        rw [hGe]
        obtain ⟨nw, hnw⟩ : ∃ nw, (xs.take i).toArray ++ Builtin.zeroCells (Value.int .i64 0).cells (xs.length + 1 - i) ++ Builtin.zeroCells (Value.int .i64 0).cells (G - (xs.length + 1)) = nw := ⟨_, rfl⟩
        have hns : nw.size = G := by
          rw [← hnw]
          simp [Builtin.zeroCells, Value.cells]
          omega
        have hnt : ∀ j, j < i → nw[j]? = xs[j]? := fun j hj => by
          rw [← hnw, Array.getElem?_append_left (by simp [Builtin.zeroCells, Value.cells]; omega), Array.getElem?_append_left (by simp; omega), List.getElem?_toArray, List.getElem?_take_of_lt hj]
        show ∃ v', _ ∧ World.ownsRow (((((w.alloc (.cells ((xs.take i).toArray ++ Builtin.zeroCells (Value.int .i64 0).cells (xs.length + 1 - i) ++ Builtin.zeroCells (Value.int .i64 0).cells (grownCap w (xs.length + 1) cap 3 - (xs.length + 1))) 3)).drew.setCells w.heap.size i [x]).drew).setCells w.heap.size (i + 1) (xs.drop i))) base 3 1 v' _ _ ∧ w.grownBy ((((w.alloc (.cells ((xs.take i).toArray ++ Builtin.zeroCells (Value.int .i64 0).cells (xs.length + 1 - i) ++ Builtin.zeroCells (Value.int .i64 0).cells (grownCap w (xs.length + 1) cap 3 - (xs.length + 1))) 3)).drew.setCells w.heap.size i [x]).drew).setCells w.heap.size (i + 1) (xs.drop i)) _ ∧ _
        rw [hGe, hnw]
        have hA : (w.alloc (.cells nw 3)).drew.heap[w.heap.size]? = some (.cells nw 3 (0, 0)) := World.alloc_heap_new w _
        obtain ⟨c1, h11, h12⟩ := heap_setCells [x] i _ nw hA
        obtain ⟨c2, h2, h3⟩ := heap_setCells (xs.drop i) (i + 1) ((w.alloc (.cells nw 3)).drew.setCells w.heap.size i [x]).drew c1 h11
        have hAc : ∀ j, (w.alloc (.cells nw 3)).drew.cell? ⟨w.heap.size, j, none⟩ = nw[j]? := fun j => by simp only [World.cell?, hA]; simp
        have hAs : ∀ j, j < G → ((w.alloc (.cells nw 3)).drew.cell? ⟨w.heap.size, j, none⟩).isSome = true := fun j hj => by
          rw [hAc, Array.getElem?_eq_getElem (by omega)]; rfl
        have s1 : ∀ j, j < G → (((w.alloc (.cells nw 3)).drew.setCells w.heap.size i [x]).drew.cell? ⟨w.heap.size, j, none⟩).isSome = true := fun j hj =>
          isSome_setCells w.heap.size [x] i (w.alloc (.cells nw 3)).drew (fun k hk => by simp at hk; subst hk; exact hAs _ (by omega)) j (hAs j hj)
        have hgr : w.grownBy (((w.alloc (.cells nw 3)).drew.setCells w.heap.size i [x]).drew.setCells w.heap.size (i + 1) (xs.drop i)) (some g) := by
          have g1 : w.grownBy (w.alloc (.cells nw 3)).drew (some g) := by
            have h0 := World.grownBy_alloc w (.cells nw 3) (some g)
            exact ⟨h0.os, h0.tape, h0.output, h0.size, h0.block⟩
          have g2 := World.grownBy.andThen g1 (grown_setCells (g := w.heap.size) [x] i _) (fun j e => by cases e; exact .inl (Nat.le_refl _))
          exact World.grownBy.andThen g2 (of_drew (grown_setCells (g := w.heap.size) (xs.drop i) (i + 1) _)) (fun j e => by cases e; exact .inl (Nat.le_refl _))
        refine ⟨_, rfl, ownsRow_cells hbase h2 hG hM (by rw [h3, h12, hns]) (ins_len (by omega)) fun j hj => ?_, hgr, .inr rfl⟩
        rw [ins_get (by omega)]
        by_cases hj2 : i < j
        · rw [if_neg (by omega), if_neg (by omega)]
          have e := World.cell?_setCells_in w.heap.size (xs.drop i) (i + 1) ((w.alloc (.cells nw 3)).drew.setCells w.heap.size i [x]).drew (fun k hk => by rw [List.length_drop] at hk; exact s1 _ (by omega)) (j - (i + 1)) (by rw [List.length_drop]; omega)
          rw [show i + 1 + (j - (i + 1)) = j by omega] at e
          rw [e, List.getElem_drop, ← List.getElem?_eq_getElem]
          congr 1
          omega
        · rw [World.cell?_setCells_out w.heap.size (xs.drop i) (i + 1) _ ⟨w.heap.size, j, none⟩ (fun _ _ => by show j < _ ∨ _ ≤ j; omega)]
          by_cases hj3 : j = i
          · subst hj3
            have e := World.cell?_setCells_in w.heap.size [x] j (w.alloc (.cells nw 3)).drew (fun k hk => by simp at hk; subst hk; exact hAs _ (by omega)) 0 (by simp)
            simp only [Nat.add_zero] at e
            rw [if_neg (by omega), if_pos rfl]
            exact e
          · rw [if_pos (by omega)]
            have e := World.cell?_setCells_out w.heap.size [x] i (w.alloc (.cells nw 3)).drew ⟨w.heap.size, j, none⟩ (fun _ _ => by show j < _ ∨ _ ≤ j; simp; omega)
            exact e.trans ((hAc j).trans (hnt j (by omega)))
end Go.Proofs.YtjmhhjdkemicbaaDoor
