import Derived.Test.YtojcgmgponnlpaaZGa
import Derived.Test.YtojcgmgponnlpaaZOi
import Derived.Test.YtojcgmgponnlpaaZMath
namespace Go.Proofs.Ytojcgmgponnlpaa
open Go.RowKit Go.Deep

/-- The numbers that are neither of two. -/
def innerI (lo hi : Int) : Nat → List Nat
  | 0 => []
  | k + 1 => if (k : Int) = lo ∨ (k : Int) = hi then innerI lo hi k else innerI lo hi k ++ [k]
theorem innerI_no {lo hi : Int} {k : Nat} (h : (k : Int) = lo ∨ (k : Int) = hi) : innerI lo hi (k + 1) = innerI lo hi k := by rw [innerI, if_pos h]
theorem innerI_yes {lo hi : Int} {k : Nat} (h : ¬ ((k : Int) = lo ∨ (k : Int) = hi)) : innerI lo hi (k + 1) = innerI lo hi k ++ [k] := by rw [innerI, if_neg h]
theorem innerI_len (lo hi : Int) (k : Nat) : (innerI lo hi k).length ≤ k := by
  induction k with
  | zero => simp [innerI]
  | succ k ih =>
    by_cases h : (k : Int) = lo ∨ (k : Int) = hi
    · rw [innerI_no h]; omega
    · rw [innerI_yes h, List.length_append, List.length_singleton]; omega
theorem innerI_to (lo hi k : Nat) : innerI (lo : Int) (hi : Int) k = innerTo lo hi k := by
  induction k with
  | zero => rfl
  | succ k ih =>
    by_cases h : k = lo ∨ k = hi
    · rw [innerTo_no h, innerI_no (by omega), ih]
    · rw [innerTo_yes h, innerI_yes (by omega), ih]
theorem innerI_pre (lo hi : Int) {k n : Nat} (h : k ≤ n) : ∃ t, innerI lo hi n = innerI lo hi k ++ t := by
  induction n with
  | zero => exact ⟨[], by obtain rfl : k = 0 := by omega
                          simp⟩
  | succ n ih =>
    rcases Nat.lt_or_ge n k with e | e
    · obtain rfl : k = n + 1 := by omega
      exact ⟨[], by simp⟩
    · obtain ⟨t, ht⟩ := ih e
      by_cases hh : (n : Int) = lo ∨ (n : Int) = hi
      · exact ⟨t, by rw [innerI_no hh, ht]⟩
      · exact ⟨t ++ [n], by rw [innerI_yes hh, ht, List.append_assoc]⟩
def innerV (lo hi : Int) (n i : Nat) : Nat := (innerI lo hi n)[i]?.getD 0
theorem innerV_at {lo hi : Int} {k n : Nat} (hk : k < n) (h : ¬ ((k : Int) = lo ∨ (k : Int) = hi)) : innerV lo hi n (innerI lo hi k).length = k := by
  obtain ⟨t, ht⟩ := innerI_pre lo hi (show k + 1 ≤ n from hk)
  unfold innerV
  rw [ht, innerI_yes h, List.append_assoc, List.getElem?_append_right (Nat.le_refl _)]
  simp
theorem IntsAt.shape {w : World} {base : Nat} {t : Value} {k : Nat} {y : Nat → Int} (h : IntsAt w base t k y) : ∃ a c, t = .slice a k c := by
  rcases h.2 with ⟨rfl, rfl⟩ | ⟨g, cap, cur, rfl, _⟩
  · exact ⟨_, _, rfl⟩
  · exact ⟨_, _, rfl⟩
theorem IntsAt.rowAt {w : World} {base : Nat} {a : Option Addr} {k c : Nat} {y : Nat → Int} (h : IntsAt w base (.slice a k c) k y) : ∃ g, RowAt w w.heap.size a g 0 k y := by
  by_cases hk : 0 < k
  · obtain ⟨g, c', e, _, h3, _⟩ := IntsAt.val h hk
    injection e with e1 e2 e3
    subst e1 e3
    exact ⟨g, ⟨fun i hi => ⟨rfl, h3, by rw [Nat.zero_add]; exact IntsAt.cell h hi⟩⟩⟩
  · exact ⟨0, ⟨fun i hi => absurd hi (by omega)⟩⟩
theorem IntsAt.below {w w' : World} {base : Nat} {t : Value} {k : Nat} {y : Nat → Int} (h : IntsAt w base t k y) (hb : Below w.heap.size w w') : IntsAt w' base t k y := ownsRow_below h hb (Nat.le_refl _)

/-- What l3Inner hands back: so many numbers. -/
def InnerRes (w : World) (p : Nat) (f : Nat → Nat) (e : Ending) (w' : World) : Prop :=
  ∃ a g c, e = .returned (.slice a p c) ∧ RowAt w' w'.heap.size a g 0 p (fun i => (f i : Int)) ∧ Below w.heap.size w w'

set_option maxRecDepth 100000 in
set_option maxHeartbeats 2000000 in
theorem spec_l3Inner {w : World} {B : Nat} {ua : Option Addr} {l : Lay} {m : Mx} {na : Option Addr} {g o k nc : Nat} {z : Nat → Int} {lo hi : Int} (h : LogAt w B ua l m na g o k z) (hk : k ≤ 1048576) (hlo : noV m k z = lo) (hhi : yesV m k z = hi) :
    Calls Try.prog 125 #[.agg #[.slice ua m.n l.cap, .slice na k nc]] w (InnerRes w (innerI lo hi k).length (innerV lo hi k)) := by
  obtain ⟨i0, hi0, hz0, hz1, hz2⟩ := info_parts infoInt
  have HI := Lib.hid hi0
  have HZ0 := Lib.hid hz0
  have HZ1 := Lib.hid hz1
  have HZ2 := Lib.hid hz2
  have HLO := Lib.hid hlo
  have HHI := Lib.hid hhi
  have H := Lib.hid h
  clear hi0 hz0 hz1 hz2 hlo hhi h
  have xa := TwoAt.new w (.slice ua m.n l.cap) (.slice na k nc) 26
  have ba := (Below.refl w.heap.size w).alloc (Nat.le_refl _) (.cells #[.slice ua m.n l.cap, .slice na k nc] 26)
  have sa : (w.alloc (.cells #[.slice ua m.n l.cap, .slice na k nc] 26)).heap.size = w.heap.size + 1 := by simp
  have hrow0 : IntsAt ((w.alloc (.cells #[.slice ua m.n l.cap, .slice na k nc] 26)).alloc (.cells #[] 3)) (w.heap.size + 1) (.slice (some ⟨w.heap.size + 1, 0, none⟩) 0 0) 0 (fun i => (innerV lo hi k i : Int)) := by
    have := World.ownsRow_lit (base := (w.alloc (.cells #[.slice ua m.n l.cap, .slice na k nc] 26)).heap.size) (e := 3) (size := 1) (w.alloc (.cells #[.slice ua m.n l.cap, .slice na k nc] 26)) #[] 0 (Nat.le_refl _) (Nat.zero_le _) rfl
    rw [sa] at this
    exact this
  have bb := (Below.refl (w.heap.size + 1) (w.alloc (.cells #[.slice ua m.n l.cap, .slice na k nc] 26))).alloc (by simp) (.cells #[] 3)
  replace xa := xa.below bb (by omega)
  have B1 := ba.trans (bb.mono (by omega))
  have s1 : w.heap.size + 1 < ((w.alloc (.cells #[.slice ua m.n l.cap, .slice na k nc] 26)).alloc (.cells #[] 3)).heap.size := by simp
  clear ba bb sa
  go_enter Try.func125, Try.ntmps125
  go_wp2_with fail
  generalize (w.alloc (.cells #[.slice ua m.n l.cap, .slice na k nc] 26)).alloc (.cells #[] 3) = w1 at xa hrow0 B1 s1 ⊢
  go_loopw [3, 4] (fun t i wr => ∃ j : Nat, j ≤ k ∧ i = .int .i64 j ∧ IntsAt wr (w.heap.size + 1) t (innerI lo hi j).length (fun i => (innerV lo hi k i : Int)) ∧ TwoAt wr w.heap.size (.slice ua m.n l.cap) (.slice na k nc) ∧ Below w.heap.size w wr ∧ w.heap.size + 1 < wr.heap.size) (fun _ i _ => k - (intOf i).toNat)
  case atStart => exact ⟨0, Nat.zero_le _, rfl, hrow0, xa, B1, s1⟩
  case round =>
    clear hrow0 xa B1 s1
    obtain ⟨j, hj, rfl, hown, hT, hW, hs⟩ := hrel
    have hlen := innerI_len lo hi j
    by_cases hjt : j < k
    · have hjt' : (j : Int) < (k : Int) := by omega
      have q0 := hT.c0
      have q1 := hT.c1
      go_wp2_with fail
      go_at_call 128
      refine (spec_NoOf (H.out.step hW)).mono ?_
      rintro e w2 ⟨rfl, b2⟩
      rw [HLO.out]
      have hT2 := hT.below b2 (by omega)
      have hW2 := hW.trans (b2.mono hW.size)
      have hown2 := hown.below b2
      have hs2 := b2.size
      clear q0 q1 hT hown
      have q0 := hT2.c0
      have q1 := hT2.c1
      by_cases e1 : (j : Int) = lo
      · have HN := Lib.hid (innerI_no (lo := lo) (hi := hi) (.inl e1))
        subst e1
        go_wp2_with fail
        go_roundw
        case rel => exact ⟨j + 1, by omega, by go_num, by rw [HN.out]; exact hown2, hT2, hW2, by omega⟩
        case measure => simp [intOf]; omega
      · have n1 : ((j : Int) != lo) = true := by simp [e1]
        go_wp2_with fail
        go_at_call 129
        refine (spec_YesOf (H.out.step hW2)).mono ?_
        rintro e w3 ⟨rfl, b3⟩
        rw [HHI.out]
        have hT3 := hT2.below b3 (by omega)
        have hW3 := hW2.trans (b3.mono hW2.size)
        have hown3 := hown2.below b3
        have hs3 := b3.size
        clear q0 q1 hT2 hown2
        by_cases e2 : (j : Int) = hi
        · have HN := Lib.hid (innerI_no (lo := lo) (hi := hi) (.inr e2))
          subst e2
          go_wp2_with fail
          go_roundw
          case rel => exact ⟨j + 1, by omega, by go_num, by rw [HN.out]; exact hown3, hT3, hW3, by omega⟩
          case measure => simp [intOf]; omega
        · have n2 : ((j : Int) != hi) = true := by simp [e2]
          have HN := Lib.hid (innerI_yes (lo := lo) (hi := hi) (k := j) (by omega))
          have HV := Lib.hid (innerV_at (lo := lo) (hi := hi) hjt (by omega))
          obtain ⟨q, hq⟩ : ∃ q, q = (innerI lo hi j).length := ⟨_, rfl⟩
          rw [← hq] at hown3 HV hlen
          replace HN : Hid ((innerI lo hi (j + 1)).length = q + 1) := by show _ = _; rw [HN.out, List.length_append, List.length_singleton, ← hq]
          clear hq
          have HT3 := Lib.hid hT3
          have HW3 := Lib.hid hW3
          clear hT3 hW3
          go_wp2_with (at_builtin; refine wpList_append_own _ rfl _ _ 24 rfl (w.heap.size + 1) 3 i0 (.int .i64 0) 1 8 Try.underlying24 HI.out HZ0.out HZ1.out HZ2.out rfl (by decide) _ _ _ rfl (World.ownsRow.alloc hown3 _) ⟨w3.heap.size, 0, none⟩ 1 1 [.int .i64 (j : Int)] rfl rfl (cell_one_new _ _ _) ?c2 ?c3 ?c4 ?c5 ?_)
          case c2 => simp [Value.oneCell']
          case c3 => unfold maxLen; omega
          case c4 => omega
          case c5 => first | omega | (simp; omega)
          intro v' w4 hown4 hgrow _
          have HO4 : Hid (IntsAt w4 (w.heap.size + 1) v' (q + 1) (fun i => (innerV lo hi k i : Int))) := by
            show IntsAt _ _ _ _ _
            refine IntsAt.told ?_
            rw [HV.out]
            exact hown4
          have hA : Below (w.heap.size + 1) w3 (w3.alloc (.cells #[.int .i64 (j : Int)] 3)) := (Below.refl _ _).alloc (by omega) _
          have hG := hA.grown hgrow (by first | omega | (simp; omega)) (ownsRow_block hown3)
          have hT4 := Lib.hid (HT3.out.below hG (by omega))
          have hW4 := Lib.hid (HW3.out.trans (hG.mono (by omega)))
          have hs4 := hG.size
          clear hown4 hgrow hown3 hA hG
          go_wp2_with fail
          go_roundw
          case rel => exact ⟨j + 1, by omega, by go_num, by rw [HN.out]; exact HO4.out, hT4.out, hW4.out, by omega⟩
          case measure => simp [intOf]; omega
    · have hjt' : ¬ (j : Int) < (k : Int) := by omega
      have hjk : j = k := by omega
      have hown' : IntsAt wr (w.heap.size + 1) u3 (innerI lo hi k).length (fun i => (innerV lo hi k i : Int)) := by rw [hjk] at hown; exact hown
      obtain ⟨a, c, rfl⟩ := hown'.shape
      have HR := Lib.hid hown'.rowAt
      have q0 := hT.c0
      have q1 := hT.c1
      clear hjk hown hown'
      go_wp2_with fail
      go_ret
      obtain ⟨g', hg'⟩ := HR.out
      exact ⟨a, g', c, rfl, hg', hW⟩
end Go.Proofs.Ytojcgmgponnlpaa
