import Derived.Test.YtojcgmgponnlpaaZDg
import Derived.Deep.DeepCutAuto
import Derived.Deep.CutBlock
namespace Go.Proofs.Ytojcgmgponnlpaa
open Go.RowKit Go.Deep

/-- Objects made one after the other. -/
def allocs (w : World) : List Obj → World
  | [] => w
  | o :: os => allocs (w.alloc o) os
theorem allocs_below : ∀ (os : List Obj) (w : World), Below w.heap.size w (allocs w os)
  | [], w => Below.refl _ w
  | o :: os, w => ((Below.refl w.heap.size w).alloc (Nat.le_refl _) o).trans ((allocs_below os (w.alloc o)).mono (by simp))
theorem allocs_get : ∀ (os : List Obj) (w : World) (i : Nat), i < os.length → (allocs w os).heap[w.heap.size + i]? = os[i]?
  | [], _, i, h => absurd h (Nat.not_lt_zero i)
  | o :: os, w, 0, _ => ((allocs_below os (w.alloc o)).block w.heap.size (by simp)).trans (World.alloc_heap_new w o)
  | o :: os, w, i + 1, h => by
    have := allocs_get os (w.alloc o) i (by simpa using h)
    rw [World.size_alloc] at this
    rw [show w.heap.size + (i + 1) = w.heap.size + 1 + i by omega]
    exact this
theorem own_of_heap {w : World} {base g n : Nat} {e : TypeId} {arr : Array Value} {xs : List Value} (h : w.heap[g]? = some (.cells arr e (0, 0))) (hn : arr.size = n) (hx : arr.toList = xs) (hb : base ≤ g) (hm : n ≤ maxLen) : w.ownsRow base e 1 (.slice (some ⟨g, 0, none⟩) n n) n xs := by
  subst hx
  refine ⟨by simp [hn], .inr ⟨g, n, arr, rfl, hb, h, Nat.le_refl _, hm, by omega, ?_⟩⟩
  rw [List.take_of_length_le (by simp [hn])]
def sixZ (r c : Nat) : Int := (([[1, 1, 1, 1, 1, 1], [0, 1, 1, 0, 0, 1], [0, 0, 1, 0, 0, 1], [0, 0, 0, 1, 1, 1], [0, 0, 0, 0, 1, 1], [0, 0, 0, 0, 0, 1]] : List (List Int))[r]?.getD [])[c]?.getD 0
def sixY (c : Nat) : Int := ([5, 4, 3, 2, 1, 0] : List Int)[c]?.getD 0
def sixOs (s : Nat) : List Obj := [
  .cells #[.slice (some ⟨s + 1 + 1 + 1 + 1 + 1 + 1 + 1, 0, none⟩) 6 6, .slice (some ⟨s + 1 + 1 + 1 + 1 + 1 + 1 + 1 + 1, 0, none⟩) 6 6] 26,
  .cells #[.int .i64 1, .int .i64 1, .int .i64 1, .int .i64 1, .int .i64 1, .int .i64 1] 3,
  .cells #[.int .i64 0, .int .i64 1, .int .i64 1, .int .i64 0, .int .i64 0, .int .i64 1] 3,
  .cells #[.int .i64 0, .int .i64 0, .int .i64 1, .int .i64 0, .int .i64 0, .int .i64 1] 3,
  .cells #[.int .i64 0, .int .i64 0, .int .i64 0, .int .i64 1, .int .i64 1, .int .i64 1] 3,
  .cells #[.int .i64 0, .int .i64 0, .int .i64 0, .int .i64 0, .int .i64 1, .int .i64 1] 3,
  .cells #[.int .i64 0, .int .i64 0, .int .i64 0, .int .i64 0, .int .i64 0, .int .i64 1] 3,
  .cells #[.slice (some ⟨s + 1, 0, none⟩) 6 6, .slice (some ⟨s + 1 + 1, 0, none⟩) 6 6, .slice (some ⟨s + 1 + 1 + 1, 0, none⟩) 6 6, .slice (some ⟨s + 1 + 1 + 1 + 1, 0, none⟩) 6 6, .slice (some ⟨s + 1 + 1 + 1 + 1 + 1, 0, none⟩) 6 6, .slice (some ⟨s + 1 + 1 + 1 + 1 + 1 + 1, 0, none⟩) 6 6] 24,
  .cells #[.int .i64 5, .int .i64 4, .int .i64 3, .int .i64 2, .int .i64 1, .int .i64 0] 3]
theorem six_len (w : World) (i : Nat) (h : i < 9) : i < (sixOs w.heap.size).length := h
theorem six_made (w : World) : MadeL 6 w (.returned (.agg #[.slice (some ⟨w.heap.size + 1 + 1 + 1 + 1 + 1 + 1 + 1, 0, none⟩) 6 6, .slice (some ⟨w.heap.size + 1 + 1 + 1 + 1 + 1 + 1 + 1 + 1, 0, none⟩) 6 6])) (allocs w (sixOs w.heap.size)) := by
  refine ⟨_, _, fun r => .slice (some ⟨w.heap.size + 1 + r, 0, none⟩) 6 6, sixZ, sixY, rfl, ⟨by omega, by omega, ⟨?_, fun r hr => ?_, fun r s _ _ hne e => hne ?_, fun r c hr hc => ?_⟩, ?_, fun r hr e => ?_, fun c hc => ?_⟩, allocs_below _ _⟩
  · exact own_of_heap (allocs_get (sixOs w.heap.size) w 7 (six_len w 7 (by omega))) rfl rfl (by omega) (by decide)
  · have h6 : r = 0 ∨ r = 1 ∨ r = 2 ∨ r = 3 ∨ r = 4 ∨ r = 5 := by omega
    rcases h6 with rfl | rfl | rfl | rfl | rfl | rfl
    · exact own_of_heap (allocs_get (sixOs w.heap.size) w 1 (six_len w 1 (by omega))) rfl rfl (by omega) (by decide)
    · exact own_of_heap (allocs_get (sixOs w.heap.size) w 2 (six_len w 2 (by omega))) rfl rfl (by omega) (by decide)
    · exact own_of_heap (allocs_get (sixOs w.heap.size) w 3 (six_len w 3 (by omega))) rfl rfl (by omega) (by decide)
    · exact own_of_heap (allocs_get (sixOs w.heap.size) w 4 (six_len w 4 (by omega))) rfl rfl (by omega) (by decide)
    · exact own_of_heap (allocs_get (sixOs w.heap.size) w 5 (six_len w 5 (by omega))) rfl rfl (by omega) (by decide)
    · exact own_of_heap (allocs_get (sixOs w.heap.size) w 6 (six_len w 6 (by omega))) rfl rfl (by omega) (by decide)
  · have e' : w.heap.size + 1 + r = w.heap.size + 1 + s := by simpa [Value.ownBlock] using e
    omega
  · have h6 : ∀ r, r < 6 → ∀ c, c < 6 → 0 ≤ sixZ r c ∧ sixZ r c ≤ 2 := by decide
    exact h6 r hr c hc
  · exact own_of_heap (allocs_get (sixOs w.heap.size) w 8 (six_len w 8 (by omega))) rfl rfl (by omega) (by decide)
  · have e' : w.heap.size + 1 + r = w.heap.size + 1 + 1 + 1 + 1 + 1 + 1 + 1 + 1 := by simpa [Value.ownBlock] using e
    omega
  · have h6 : ∀ c, c < 6 → 0 ≤ sixY c ∧ sixY c < 6 := by decide
    exact h6 c hc

set_option maxRecDepth 100000 in
set_option maxHeartbeats 1000000 in
theorem six_any (w : World) : Calls Try.prog 82 #[] w (MadeL 6 w) := by
  have hall := Lib.hid (six_made w)
  have hc : (allocs w (sixOs w.heap.size)).heap[w.heap.size]? = (sixOs w.heap.size)[0]? := allocs_get (sixOs w.heap.size) w 0 (six_len w 0 (by omega))
  have t0 : (allocs w (sixOs w.heap.size)).cell? ⟨w.heap.size, 0, none⟩ = some (.slice (some ⟨w.heap.size + 1 + 1 + 1 + 1 + 1 + 1 + 1, 0, none⟩) 6 6) := by simp only [World.cell?]; rw [hc]; rfl
  have t1 : (allocs w (sixOs w.heap.size)).cell? ⟨w.heap.size, 1, none⟩ = some (.slice (some ⟨w.heap.size + 1 + 1 + 1 + 1 + 1 + 1 + 1 + 1, 0, none⟩) 6 6) := by simp only [World.cell?]; rw [hc]; rfl
  clear hc
  go_enter Try.func82, Try.ntmps82
  go_wp2_with fail
  change bodyPost _ _ _ _ _ (allocs w (sixOs w.heap.size))
  generalize allocs w (sixOs w.heap.size) = W at hall t0 t1 ⊢
  exact bodyPost_ret (v := .agg #[.slice (some ⟨w.heap.size + 1 + 1 + 1 + 1 + 1 + 1 + 1, 0, none⟩) 6 6, .slice (some ⟨w.heap.size + 1 + 1 + 1 + 1 + 1 + 1 + 1 + 1, 0, none⟩) 6 6]) (by simp [results, Try.results82, go_sem, t0, t1]) rfl hall.out
end Go.Proofs.Ytojcgmgponnlpaa
namespace Go.Proofs.Ytojcgmgponnlpaa
open Go.RowKit Go.Deep

def pz (k : Nat) : Bool := decide (k = 0)
def pe (j : Nat) : Bool := decide (j = 11)
def pq (k j : Nat) : Bool := decide (k = j)
def p3 (k : Nat) : Bool := decide (k ≤ 3)
def p4 (k : Nat) : Bool := decide (3 ≤ k)
def p8 (j : Nat) : Bool := decide (j ≤ 8)
def p9 (j : Nat) : Bool := decide (8 ≤ j)
def p5 (k j : Nat) : Bool := decide ((k : Int) ≠ (j : Int) - 5)

theorem l1In_b (n lo hi : Int) (w : World) :
    Calls Try.prog 56 #[.int .i64 n, .int .i64 lo, .int .i64 hi] w fun e w' => ∃ b, e = .returned (.bool b) ∧ w = w' :=
  (l1In_any n lo hi w).mono fun _ _ ⟨h1, h2⟩ => ⟨_, h1, h2⟩
def pastY (c : Nat) : Int := ([11, 6, 7, 8, 9, 10, 1, 2, 3, 4, 5, 0] : List Int)[c]?.getD 0
/-- The last step: the logic is stored into the result's box. -/
theorem log_end {w wr : World} {u t u0 t0 : Value} {n : Nat} {rv : Nat → Value} {Z : Nat → Nat → Int} {y : Nat → Int} (h : LogO wr (w.heap.size + 1 + 1) u t n rv Z y) (hr : TwoAt wr w.heap.size u0 t0) (hW : Below w.heap.size w wr) :
    MadeL n w (.returned (.agg #[u, t])) ((wr.setCell ⟨w.heap.size, 0, none⟩ u).setCell ⟨w.heap.size, 1, none⟩ t) := by
  have hc : Chg (fun j => j = w.heap.size) wr ((wr.setCell ⟨w.heap.size, 0, none⟩ u).setCell ⟨w.heap.size, 1, none⟩ t) := (Chg.set (S := fun j => j = w.heap.size) rfl _).trans (Chg.set (S := fun j => j = w.heap.size) rfl _)
  have hs : w.heap.size < wr.heap.size := World.block_lt_of_cell? wr ⟨w.heap.size, 0, none⟩ hr.c0
  exact ⟨u, t, rv, Z, y, rfl, (h.chg hc (fun j hj => by have hj' : j = w.heap.size := hj; omega)).base (by omega), hW.trans (hc.below (by omega) (fun j hj => by have hj' : j = w.heap.size := hj; omega))⟩
theorem bits_of {x : Value} (h : x = .int .i64 0 ∨ x = .int .i64 1) : ∃ b : Int, x = .int .i64 b ∧ 0 ≤ b ∧ b ≤ 2 := by
  rcases h with rfl | rfl
  · exact ⟨0, rfl, by omega, by omega⟩
  · exact ⟨1, rfl, by omega, by omega⟩

set_option maxRecDepth 100000 in
set_option maxHeartbeats 2000000 in
theorem pasted_any (w : World) : Calls Try.prog 83 #[] w (MadeL 12 w) := by
  obtain ⟨i0, hi, hz0, hz1, hz2⟩ := info_parts infoInt
  have HI := Lib.hid hi
  have HZ0 := Lib.hid hz0
  have HZ1 := Lib.hid hz1
  have HZ2 := Lib.hid hz2
  obtain ⟨i1, hj, hy0, hy1, hy2⟩ := info_parts infoInts
  have HJ := Lib.hid hj
  have HY0 := Lib.hid hy0
  have HY1 := Lib.hid hy1
  have HY2 := Lib.hid hy2
  clear hi hz0 hz1 hz2 hj hy0 hy1 hy2
  have hr0 := TwoAt.new w (.slice none 0 0) (.slice none 0 0) 26
  have hb0 := TwoAt.new (w.alloc (.cells #[.slice none 0 0, .slice none 0 0] 26)) (.slice none 0 0) (.slice none 0 0) 26
  rw [World.size_alloc] at hb0
  have hr1 := (Chg.alloc (fun _ => False) (w.alloc (.cells #[.slice none 0 0, .slice none 0 0] 26)) (.cells #[.slice none 0 0, .slice none 0 0] 26)).two hr0 (fun h => h)
  have hw0 := ((Below.refl w.heap.size w).alloc (Nat.le_refl _) (.cells #[.slice none 0 0, .slice none 0 0] 26)).alloc (by simp) (.cells #[.slice none 0 0, .slice none 0 0] 26)
  have hO0 : Out ((w.alloc (.cells #[.slice none 0 0, .slice none 0 0] 26)).alloc (.cells #[.slice none 0 0, .slice none 0 0] 26)) (w.heap.size + 1 + 1) (.slice none 0 0) 0 12 (fun _ => .slice none 0 0) (fun _ _ => 0) := ⟨World.ownsRow_nil _ _ _ 1, fun r hr => absurd hr (Nat.not_lt_zero _), fun r s hr => absurd hr (Nat.not_lt_zero _), fun r c hr => absurd hr (Nat.not_lt_zero _)⟩
  clear hr0
  go_enter Try.func83, Try.ntmps83
  go_wp2_with fail
  go_loopw [2] (fun i wr => ∃ (k : Nat) (u : Value) (rv : Nat → Value) (Z : Nat → Nat → Int), k ≤ 12 ∧ i = .int .i64 k ∧ TwoAt wr w.heap.size (.slice none 0 0) (.slice none 0 0) ∧ TwoAt wr (w.heap.size + 1) u (.slice none 0 0) ∧ Out wr (w.heap.size + 1 + 1) u k 12 rv Z ∧ Below w.heap.size w wr) (fun i _ => 12 - (intOf i).toNat)
  case atStart => exact ⟨0, _, _, _, Nat.zero_le _, rfl, hr1, hb0, hO0, hw0⟩
  case round =>
    clear hr1 hb0 hO0 hw0
    obtain ⟨k, u, rv, Z, hk, rfl, hr, hb, hO, hW⟩ := hrel
    by_cases hlt : k < 12
    · have hlt' : (k : Int) < 12 := by omega
      obtain ⟨wo, rfl⟩ : ∃ wo : World, wo = wr := ⟨_, rfl⟩
      have hsz := hW.size
      have hpo : w.heap.size + 1 < wo.heap.size := World.block_lt_of_cell? wo ⟨w.heap.size + 1, 1, none⟩ hb.c1
      have hrow0 : IntsAt (wo.alloc (.cells #[] 3)) wo.heap.size (.slice (some ⟨wo.heap.size, 0, none⟩) 0 0) 0 (fun _ => 0) := World.ownsRow_lit (base := wo.heap.size) (e := 3) (size := 1) wo #[] 0 (Nat.le_refl _) (Nat.zero_le _) rfl
      have hbr := (Below.refl wo.heap.size wo).alloc (Nat.le_refl _) (.cells #[] 3)
      go_wp2_with fail
      go_loopw [3, 4] (fun t i wi => ∃ (j : Nat) (z : Nat → Int), j ≤ 12 ∧ i = .int .i64 j ∧ IntsAt wi wo.heap.size t j z ∧ Hid (∀ c, c < j → 0 ≤ z c ∧ z c ≤ 2) ∧ Below wo.heap.size wo wi) (fun _ i _ => 12 - (intOf i).toNat)
      case atStart => exact ⟨0, fun _ => 0, Nat.zero_le _, rfl, hrow0, fun c hc => absurd hc (Nat.not_lt_zero _), hbr⟩
      case round =>
        clear hrow0 hbr
        obtain ⟨j, z, hj, rfl, hown, hz, hWi⟩ := hrel
        have hws := hWi.size
        by_cases hjt : j < 12
        · have hjt' : (j : Int) < 12 := by omega
          obtain ⟨wq, hwq⟩ : ∃ wq : World, wq = wr := ⟨_, rfl⟩
          go_upto_block 4 with fail
          go_cut [5] (fun x wx => (x = .int .i64 0 ∨ x = .int .i64 1) ∧ wx = wr)
          case first =>
            clear hwq
            have t0 : ((k : Int) == (j : Int)) = pq k j := by unfold pq; rw [Bool.eq_iff_iff]; simp; omega
            have t0' : decide ((k : Int) = (j : Int)) = pq k j := by unfold pq; rw [Bool.eq_iff_iff]; simp; omega
            have t1 : ((k : Int) == 0) = pz k := by unfold pz; rw [Bool.eq_iff_iff]; simp
            have t1' : decide ((k : Int) = 0) = pz k := by unfold pz; rw [Bool.eq_iff_iff]; simp
            have t2 : ((j : Int) == 11) = pe j := by unfold pe; rw [Bool.eq_iff_iff]; simp; omega
            have t2' : decide ((j : Int) = 11) = pe j := by unfold pe; rw [Bool.eq_iff_iff]; simp; omega
            have t3 : decide ((k : Int) ≤ 3) = p3 k := by unfold p3; rw [Bool.eq_iff_iff]; simp; omega
            have t4 : decide ((3 : Int) ≤ (k : Int)) = p4 k := by unfold p4; rw [Bool.eq_iff_iff]; simp; omega
            have t5 : decide ((j : Int) - 5 ≤ 3) = p8 j := by unfold p8; rw [Bool.eq_iff_iff]; simp; omega
            have t6 : decide ((3 : Int) ≤ (j : Int) - 5) = p9 j := by unfold p9; rw [Bool.eq_iff_iff]; simp; omega
            have t7 : ((k : Int) != (j : Int) - 5) = p5 k j := by unfold p5; rw [Bool.eq_iff_iff]; simp
            go_wp2_with fail
            all_goals
              first
                | (go_meet
                   exact ⟨by first | exact .inl rfl | exact .inr rfl, rfl⟩)
                | (go_at_call 56
                   refine (l1In_b _ _ _ _).mono ?_
                   rintro e w3 ⟨b, rfl, rfl⟩
                   cases b with
                   | false =>
                     go_wp2_with fail
                     go_meet
                     exact ⟨.inl rfl, rfl⟩
                   | true =>
                     go_wp2_with fail
                     go_at_call 56
                     refine (l1In_b _ _ _ _).mono ?_
                     rintro e w3 ⟨b, rfl, rfl⟩
                     cases b with
                     | false =>
                       go_wp2_with fail
                       go_meet
                       exact ⟨.inl rfl, rfl⟩
                     | true =>
                       go_wp2_with fail
                       all_goals
                         go_meet
                         exact ⟨by first | exact .inl rfl | exact .inr rfl, rfl⟩)
          case rest =>
            obtain ⟨hxx, rfl⟩ := hcut
            obtain ⟨b, rfl, hb0, hb2⟩ := bits_of hxx
            clear hxx hwq
            go_wp2_with (at_builtin; refine wpList_append_own _ rfl _ _ 24 rfl wo.heap.size 3 i0 (.int .i64 0) 1 8 Try.underlying24 HI.out HZ0.out HZ1.out HZ2.out rfl (by decide) _ _ _ rfl ((Chg.alloc (fun _ => False) _ _).own hown (fun _ _ h => h)) ⟨wc.heap.size, 0, none⟩ 1 1 [.int .i64 b] rfl rfl (cell_one_new _ _ _) ?c2 ?c3 ?c4 ?c5 ?_)
            case c2 => simp [Value.oneCell']
            case c3 => unfold maxLen; omega
            case c4 => omega
            case c5 => first | omega | (simp; omega)
            intro v' w4 hown4 hgrow _
            have HO4 := Lib.hid (IntsAt.step hown4)
            have hW4 : Below wo.heap.size wo w4 := (hWi.alloc hws _).grown hgrow (by first | omega | (simp; omega)) (ownsRow_block hown)
            clear hown4 hgrow hown
            go_wp2_with fail
            go_roundw
            case rel => exact ⟨j + 1, _, by omega, by go_num, HO4.out, fun c hc => by
              show 0 ≤ (if c = j then _ else z c) ∧ (if c = j then _ else z c) ≤ 2
              by_cases e : c = j
              · rw [if_pos e]; omega
              · rw [if_neg e]; exact hz.out c (by omega), hW4⟩
            case measure => simp [intOf]; omega
        · have hjt' : ¬ (j : Int) < 12 := by omega
          have hjn : j = 12 := by omega
          have hrow : IntsAt wr wo.heap.size u3 12 z := by subst hjn; exact hown
          have hc0 := Chg.of_below (S := fun _ => False) hWi (fun j hj hB => absurd hj (by omega))
          have hO' := hc0.out hO (fun _ _ h => h) (fun _ _ _ _ h => h)
          have hr' := hc0.two hr (fun h => h)
          have hb' := hc0.two hb (fun h => h)
          obtain ⟨gk, ck, rfl, hgk, hgl, _⟩ := hrow.val (by omega)
          have hne : ∀ r, r < k → (rv r).ownBlock ≠ (Value.slice (some ⟨gk, 0, none⟩) 12 ck).ownBlock := fun r hr e => by
            have h1 := own_lt (hO.row r hr) gk (by rw [e]; rfl)
            omega
          have HN := Lib.hid hne
          have hrw : wr.ownsRow (w.heap.size + 1 + 1) 3 1 (.slice (some ⟨gk, 0, none⟩) 12 ck) 12 ((List.range 12).map fun c => .int .i64 (z c)) := ownsRow_base hrow (by omega)
          have HZZ : Hid (∀ c, c < 12 → 0 ≤ z c ∧ z c ≤ 2) := fun c hc => hz.out c (by omega)
          have q0 := hb'.c0
          have hbA : ∀ o, TwoAt (wr.alloc o) (w.heap.size + 1) u (.slice none 0 0) := fun o => (Chg.alloc (fun _ => False) _ _).two hb' (fun h => h)
          have hrA : ∀ o, TwoAt (wr.alloc o) w.heap.size (.slice none 0 0) (.slice none 0 0) := fun o => (Chg.alloc (fun _ => False) _ _).two hr' (fun h => h)
          have htb := Lib.hid (ownsRow_block hO'.top)
          have hWA := hW.trans (hWi.mono hsz)
          clear hjn hown hrow hne hO hc0 hr hb hr' hb'
          go_wp2_with (at_builtin; refine wpList_append_own _ rfl _ _ 23 rfl (w.heap.size + 1 + 1) 24 i1 (.slice none 0 0) 1 24 Try.underlying23 HJ.out HY0.out HY1.out HY2.out rfl (by decide) _ _ _ rfl (hO'.top.alloc _) ⟨wr.heap.size, 0, none⟩ 1 1 [.slice (some ⟨gk, 0, none⟩) 12 ck] rfl rfl (cell_one_new _ _ _) ?d2 ?d3 ?d4 ?d5 ?_)
          case d2 => simp [Value.oneCell']
          case d3 => unfold maxLen; omega
          case d4 => omega
          case d5 => first | omega | (simp; omega)
          intro v' w4 hown4 hgrow _
          have HX := Lib.hid (hO'.append hrw HZZ.out HN.out hown4 hgrow)
          have hg4 := Chg.of_grown (S := fun j => w.heap.size + 1 + 1 ≤ j) hgrow htb.out
          have hb4 := hg4.two (hbA _) (by show ¬ (w.heap.size + 1 + 1 ≤ w.heap.size + 1); omega)
          have hr4 := hg4.two (hrA _) (by show ¬ (w.heap.size + 1 + 1 ≤ w.heap.size); omega)
          have hW4 : Below w.heap.size w w4 := (hWA.alloc (by omega) _).trans (hg4.below (by simp; omega) (fun j hj => by have hj' : w.heap.size + 1 + 1 ≤ j := hj; omega))
          have r0 := hb4.c0
          have r1 := hb4.f0
          obtain ⟨g4, c4, rfl, _⟩ := HX.out.topv (by omega)
          clear hown4 hgrow hO' hrw hg4
          go_wp2_with fail
          go_roundw
          case rel => exact ⟨k + 1, _, _, _, by omega, by go_num, hr4.other (by omega), hb4.set0 _, (Chg.set (S := fun j => j = w.heap.size + 1) rfl _).out HX.out (fun g hg e => by
            have h1 := ownsRow_block HX.out.top g hg
            have e' : g = w.heap.size + 1 := e
            omega) (fun r hr g hg e => by
            have h1 := ownsRow_block (HX.out.row r hr) g hg
            have e' : g = w.heap.size + 1 := e
            omega), hW4.setCell (by show w.heap.size ≤ w.heap.size + 1; omega) _⟩
          case measure => simp [intOf]; omega
    · have hlt' : ¬ (k : Int) < 12 := by omega
      have hkn : k = 12 := by omega
      subst hkn
      obtain ⟨gu, cu, rfl, _⟩ := hO.topv (by omega)
      have hpw : w.heap.size + 1 < wr.heap.size := World.block_lt_of_cell? wr ⟨w.heap.size + 1, 1, none⟩ hb.c1
      have hpw0 : w.heap.size < wr.heap.size := by omega
      have hsz1 : (wr.setCell ⟨w.heap.size + 1, 1, none⟩ (.slice (some ⟨wr.heap.size, 0, none⟩) 12 12)).heap.size = wr.heap.size := by simp
      have hc1 := Chg.set (S := fun j => j = w.heap.size + 1) (w := wr) (i := 1) rfl (.slice (some ⟨wr.heap.size, 0, none⟩) 12 12)
      have hO1 := hc1.out hO (fun g hg e => by
        have h1 := ownsRow_block hO.top g hg
        have e' : g = w.heap.size + 1 := e
        omega) (fun r hr g hg e => by
        have h1 := ownsRow_block (hO.row r hr) g hg
        have e' : g = w.heap.size + 1 := e
        omega)
      have hr1 := hr.other (q := w.heap.size + 1) (i := 1) (x := .slice (some ⟨wr.heap.size, 0, none⟩) 12 12) (by omega)
      have hb1 := hb.set1 (.slice (some ⟨wr.heap.size, 0, none⟩) 12 12)
      have hW1 := hW.setCell (p := ⟨w.heap.size + 1, 1, none⟩) (by show w.heap.size ≤ w.heap.size + 1; omega) (.slice (some ⟨wr.heap.size, 0, none⟩) 12 12)
      have hI := own_of_heap (base := w.heap.size + 1 + 1) (n := 12) (e := 3) (World.alloc_heap_new (wr.setCell ⟨w.heap.size + 1, 1, none⟩ (.slice (some ⟨wr.heap.size, 0, none⟩) 12 12)) (.cells #[.int .i64 11, .int .i64 6, .int .i64 7, .int .i64 8, .int .i64 9, .int .i64 10, .int .i64 1, .int .i64 2, .int .i64 3, .int .i64 4, .int .i64 5, .int .i64 0] 3)) rfl rfl (by omega) (by decide)
      rw [hsz1] at hI
      have hc0 := Chg.alloc (fun _ => False) (wr.setCell ⟨w.heap.size + 1, 1, none⟩ (.slice (some ⟨wr.heap.size, 0, none⟩) 12 12)) (.cells #[.int .i64 11, .int .i64 6, .int .i64 7, .int .i64 8, .int .i64 9, .int .i64 10, .int .i64 1, .int .i64 2, .int .i64 3, .int .i64 4, .int .i64 5, .int .i64 0] 3)
      have hO2 := hc0.out hO1 (fun _ _ h => h) (fun _ _ _ _ h => h)
      have hr2 := hc0.two hr1 (fun h => h)
      have hb2 := hc0.two hb1 (fun h => h)
      have hW2 := hW1.alloc (by rw [hsz1]; omega) (.cells #[.int .i64 11, .int .i64 6, .int .i64 7, .int .i64 8, .int .i64 9, .int .i64 10, .int .i64 1, .int .i64 2, .int .i64 3, .int .i64 4, .int .i64 5, .int .i64 0] 3)
      have hsep : ∀ r, r < 12 → (rv r).ownBlock ≠ (Value.slice (some ⟨wr.heap.size, 0, none⟩) 12 12).ownBlock := fun r hr e => by
        have h1 := own_lt (hO.row r hr) wr.heap.size (by rw [e]; rfl)
        omega
      have hL2 : LogO _ (w.heap.size + 1 + 1) (.slice (some ⟨gu, 0, none⟩) 12 cu) (.slice (some ⟨wr.heap.size, 0, none⟩) 12 12) 12 rv Z pastY := ⟨by omega, by omega, hO2, hI, hsep, fun c hc => by
        have h6 : ∀ c, c < 12 → 0 ≤ pastY c ∧ pastY c < 12 := by decide
        exact h6 c hc⟩
      have w0 := hb.c0
      have w1 := hb.c1
      have w2 := hb.f1
      have w3 := hr.c0
      have w4 := hr.c1
      have w5 := hr.f0
      have w6 := hr.f1
      have hall := Lib.hid (log_end hL2 hr2 hW2)
      have hfin := (hr2.set0 (.slice (some ⟨gu, 0, none⟩) 12 cu)).set1 (.slice (some ⟨wr.heap.size, 0, none⟩) 12 12)
      have t0 := hfin.c0
      have t1 := hfin.c1
      rw [World.setCell_alloc_past _ _ _ _ (by simp; omega), World.setCell_alloc_past _ _ _ _ (by simp; omega)] at hall t0 t1
      clear hc0 hc1 hO hr hb hW hI hO1 hO2 hr1 hb1 hW1 hsep hr2 hb2 hL2 hW2 hfin hsz1
      go_wp2_with fail
      exact bodyPost_ret (v := .agg #[.slice (some ⟨gu, 0, none⟩) 12 cu, .slice (some ⟨wr.heap.size, 0, none⟩) 12 12]) (by simp [results, Try.results83, go_sem, t0, t1]) rfl hall.out
end Go.Proofs.Ytojcgmgponnlpaa
