import Derived.Test.YtojcgmgponnlpaaZDkp
import Derived.Test.YtojcgmgponnlpaaZDkm
import Derived.Test.YtojcgmgponnlpaaZMath
import Derived.Laws.Strings2
import Derived.Test.YtojcgmgponnlpaaZDko
import Derived.Lib.AtoiAll
import Derived.Lib.ItoaNum
import Derived.Lib.Bytealg
import Derived.Test.YtojcgmgponnlpaaZWc
import Derived.Handy
import Derived.Shelf.Strings.Search2
import Derived.Shelf.Strconv.Itoa3
import Derived.Shelf.Strconv.ErrVarAll
import Derived.Test.YtojcgmgponnlpaaZGa
import Derived.Laws.IdiomStrings
import Derived.Laws.StructEq
import Derived.Test.YtojcgmgponnlpaaZVi
import Derived.Test.YtojcgmgponnlpaaZGb
import Derived.Test.YtojcgmgponnlpaaZYo
namespace Go.Proofs.Ytojcgmgponnlpaa
open Go.RowKit Go.Deep Go.Joins

theorem sameC_is {n n' : Nat} {Z Z' : Nat → Nat → Int} {y y' : Nat → Nat} : sameC (Lc.of n Z y) (Lc.of n' Z' y') = true ↔ n = n' ∧ (∀ r, r < n → ∀ j, j < n → Z r j = Z' r j) ∧ ∀ j, j < n → y j = y' j := by
  unfold sameC
  constructor
  · intro h
    rw [Bool.and_eq_true, Bool.and_eq_true, Bool.and_eq_true, decide_eq_true_iff] at h
    obtain ⟨⟨h1, h2⟩, _, h4⟩ := h
    have h1' : n = n' := h1
    refine ⟨h1', fun r hr j hj => ?_, fun j hj => ?_⟩
    · have h5 := allB_is h2 r hr
      rw [Bool.and_eq_true] at h5
      exact of_decide_eq_true (allB_is h5.2 j hj)
    · have h5 : ((y j : Nat) : Int) = (y' j : Int) := of_decide_eq_true (allB_is h4 j hj)
      omega
  · rintro ⟨rfl, h1, h2⟩
    rw [Bool.and_eq_true, Bool.and_eq_true, Bool.and_eq_true, decide_eq_true_iff]
    refine ⟨⟨rfl, allB_true fun r hr => ?_⟩, decide_eq_true rfl, allB_true fun j hj => decide_eq_true ?_⟩
    · rw [Bool.and_eq_true]
      exact ⟨decide_eq_true rfl, allB_true fun j hj => decide_eq_true (h1 r hr j hj)⟩
    · show ((y j : Nat) : Int) = (y' j : Int)
      rw [h2 j hj]
theorem sameC_no {n n' : Nat} {Z Z' : Nat → Nat → Int} {y y' : Nat → Nat} (h : ¬ (n = n' ∧ (∀ r, r < n → ∀ j, j < n → Z r j = Z' r j) ∧ ∀ j, j < n → y j = y' j)) : sameC (Lc.of n Z y) (Lc.of n' Z' y') = false := by
  cases e : sameC (Lc.of n Z y) (Lc.of n' Z' y') with
  | false => rfl
  | true => exact absurd (sameC_is.1 e) h
set_option maxRecDepth 100000 in
set_option maxHeartbeats 4000000 in
theorem spec_l11Same_at {w : World} {B B' : Nat} {ua ua' : Option Addr} {l l' : Lay} {na na' : Option Addr} {g o nc n g' o' nc' n' : Nat} {Z Z' : Nat → Nat → Int} {y y' : Nat → Nat}
    (h : LogAt w B ua l ⟨n, fun _ => n, Z⟩ na g o n (fun a => (y a : Int))) (h' : LogAt w B' ua' l' ⟨n', fun _ => n', Z'⟩ na' g' o' n' (fun a => (y' a : Int))) (hn : n ≤ 12) (hn' : n' ≤ 12) :
    Calls Try.prog 87 #[.agg #[.slice ua n l.cap, .slice na n nc], .agg #[.slice ua' n' l'.cap, .slice na' n' nc']] w fun e w' => e = .returned (.bool (sameC (Lc.of n Z y) (Lc.of n' Z' y'))) ∧ Below w.heap.size w w' := by
  have X := BoxN.start w #[.slice ua n l.cap, .slice na n nc] 26
  have Y := BoxN.start (w.alloc (.cells #[.slice ua n l.cap, .slice na n nc] 26)) #[.slice ua' n' l'.cap, .slice na' n' nc'] 26
  have X2 := X.step Y.below
  have b0 := X2.below
  have HL := Lib.hid (h.step b0)
  have HL' := Lib.hid (h'.step b0)
  have q1 := X2.cell 1 rfl
  have y1 := Y.cell 1 rfl
  rw [World.size_alloc] at y1
  clear h h' X
  by_cases hne : n = n'
  · subst hne
    have e0 : ((n : Int) != (n : Int)) = false := by simp
    go_enter Try.func87, Try.ntmps87
    go_wp2_with fail
    generalize (w.alloc (.cells #[.slice ua n l.cap, .slice na n nc] 26)).alloc (.cells #[.slice ua' n l'.cap, .slice na' n nc'] 26) = W at X2 Y b0 HL HL' q1 y1 ⊢
    clear q1 y1 e0
    go_loopw [5] (fun i wr => ∃ k : Nat, k ≤ n ∧ i = .int .i64 (k : Int) ∧ Below W.heap.size W wr ∧ Hid (∀ a, a < k → y a = y' a ∧ ∀ b, b < n → Z a b = Z' a b)) (fun i _ => n - (RowKit.intOf i).toNat)
    case atStart => exact ⟨0, Nat.zero_le _, rfl, Below.refl _ _, fun a ha => absurd ha (Nat.not_lt_zero _)⟩
    case round =>
      obtain ⟨k, hk, rfl, hB, hM⟩ := hrel
      have X3 := X2.step hB
      have Y3 := Y.step hB
      have q1 := X3.cell 1 rfl
      have y1 := Y3.cell 1 rfl
      rw [World.size_alloc] at y1
      have hz := hB.size
      by_cases hlt : k < n
      · have hlt' : (k : Int) < n := by omega
        have hk0 : (0 : Int) ≤ k := by omega
        have hLr := Lib.hid (HL.out.step hB)
        have hLr' := Lib.hid (HL'.out.step hB)
        obtain ⟨rfl, _, c1⟩ := hLr.out.row.row k hlt
        obtain ⟨rfl, _, c1'⟩ := hLr'.out.row.row k hlt
        by_cases he : y k = y' k
        · have e1 : (((y k : Nat) : Int) != ((y' k : Nat) : Int)) = false := by rw [he]; simp
          have HE := Lib.hid he
          clear he
          go_wp2_with fail
          go_quiet (fail)
          go_wp2_with fail
          clear e1 q1 y1 c1 c1'
          go_loopw [6] (fun i wi => ∃ j : Nat, j ≤ n ∧ i = .int .i64 (j : Int) ∧ Below W.heap.size W wi ∧ Hid (∀ b, b < j → Z k b = Z' k b)) (fun i _ => n - (RowKit.intOf i).toNat)
          case atStart => exact ⟨0, Nat.zero_le _, rfl, hB.trans (Below.drewN' (Below.refl _ _) _), fun a ha => absurd ha (Nat.not_lt_zero _)⟩
          case round =>
            obtain ⟨j, hj, rfl, hBi, hMi⟩ := hrel
            have X4 := X2.step hBi
            have Y4 := Y.step hBi
            have q0 := X4.cell 0 rfl
            have q1 := X4.cell 1 rfl
            have y0 := Y4.cell 0 rfl
            rw [World.size_alloc] at y0
            by_cases hjt : j < n
            · have hjt' : (j : Int) < n := by omega
              have hj0 : (0 : Int) ≤ j := by omega
              have hLi := HL.out.step hBi
              have hLi' := HL'.out.step hBi
              obtain ⟨rfl, _, r1⟩ := hLi.mat.top k hlt
              obtain ⟨rfl, _, r1'⟩ := hLi'.mat.top k hlt
              obtain ⟨a1, _, s1⟩ := hLi.mat.row k hlt j hjt
              obtain ⟨a1', _, s1'⟩ := hLi'.mat.row k hlt j hjt
              rw [a1] at r1
              rw [a1'] at r1'
              dsimp only at r1 r1' s1 s1'
              clear hLi hLi' a1 a1'
              by_cases hz : Z k j = Z' k j
              · have e2 : (Z k j != Z' k j) = false := by rw [hz]; simp
                have HZ : Hid (∀ b, b < j + 1 → Z k b = Z' k b) := fun b hb => by
                  by_cases e : b = j
                  · subst e; exact hz
                  · exact hMi.out b (by omega)
                clear hz
                go_wp2_with fail
                go_quiet (fail)
                go_wp2_with fail
                exact ⟨⟨j + 1, by omega, by go_num, hBi.trans (Below.drewN' (Below.refl _ _) _), HZ⟩, by simp [RowKit.intOf]; omega⟩
              · have e2 : (Z k j != Z' k j) = true := bne_iff_ne.2 hz
                have HF : Hid (false = sameC (Lc.of n Z y) (Lc.of n Z' y')) := (sameC_no fun hh => hz (hh.2.1 k hlt j hjt)).symm
                clear hz
                go_wp2_with fail
                go_quiet (fail)
                go_wp2_with fail
                go_ret
                exact ⟨ret_bool HF.out, b0.trans ((hBi.trans (Below.drewN' (Below.refl _ _) _)).mono b0.size)⟩
            · have hjt' : ¬ (j : Int) < n := by omega
              have HK : Hid (∀ a, a < k + 1 → y a = y' a ∧ ∀ b, b < n → Z a b = Z' a b) := fun a ha => by
                by_cases e : a = k
                · subst e
                  exact ⟨HE.out, fun b hb => hMi.out b (by omega)⟩
                · exact hM.out a (by omega)
              go_wp2_with fail
              exact ⟨⟨k + 1, by omega, by go_num, hBi, HK⟩, by simp [RowKit.intOf]; omega⟩
        · have e1 : (((y k : Nat) : Int) != ((y' k : Nat) : Int)) = true := bne_iff_ne.2 (by omega)
          have HF : Hid (false = sameC (Lc.of n Z y) (Lc.of n Z' y')) := (sameC_no fun hh => he (hh.2.2 k hlt)).symm
          clear he
          go_wp2_with fail
          go_quiet (fail)
          go_wp2_with fail
          go_ret
          exact ⟨ret_bool HF.out, b0.trans ((hB.trans (Below.drewN' (Below.refl _ _) _)).mono b0.size)⟩
      · have hlt' : ¬ (k : Int) < n := by omega
        have HT : Hid (true = sameC (Lc.of n Z y) (Lc.of n Z' y')) := (sameC_is.2 ⟨rfl, fun r hr j hj => (hM.out r (by omega)).2 j hj, fun j hj => (hM.out j (by omega)).1⟩).symm
        go_wp2_with fail
        go_ret
        exact ⟨ret_bool HT.out, b0.trans (hB.mono b0.size)⟩
  · have e0 : ((n : Int) != (n' : Int)) = true := bne_iff_ne.2 (by omega)
    have HF : Hid (false = sameC (Lc.of n Z y) (Lc.of n' Z' y')) := (sameC_no fun hh => hne hh.1).symm
    clear hne
    go_enter Try.func87, Try.ntmps87
    go_wp2_with fail
    go_ret
    exact ⟨ret_bool HF.out, b0⟩
theorem spec_l11Same {w : World} {B B' : Nat} {u t u' t' : Value} {c d : Lc} (h : CAt w B u t c) (h' : CAt w B' u' t' d) (hc : c.Is) (hd : d.Is) :
    Calls Try.prog 87 #[.agg #[u, t], .agg #[u', t']] w fun e w' => e = .returned (.bool (sameC c d)) ∧ Below w.heap.size w w' := by
  obtain ⟨n, Z, y, q, rfl, hD⟩ := hc
  obtain ⟨n', Z', y', q', rfl, hD'⟩ := hd
  obtain ⟨ua, l, na, g, o, nc, rfl, rfl, hL⟩ := h
  obtain ⟨ua', l', na', g', o', nc', rfl, rfl, hL'⟩ := h'
  exact spec_l11Same_at hL hL' hD.top hD'.top
end Go.Proofs.Ytojcgmgponnlpaa
namespace Go.Proofs.Ytojcgmgponnlpaa

end Go.Proofs.Ytojcgmgponnlpaa
namespace Go.Proofs.Ytojcgmgponnlpaa

end Go.Proofs.Ytojcgmgponnlpaa
namespace Go.Proofs.Ytojcgmgponnlpaa
open Go.RowKit Go.Deep Go.Shelf Go.Lib

end Go.Proofs.Ytojcgmgponnlpaa
namespace Go.Proofs.Ytojcgmgponnlpaa
open Go.RowKit Go.Deep

theorem hold_stronger {P : Program} {md : Region.Mode} {ops : Array Oper} {Q : Exit → Act → World → Prop} {S S' : World → Prop} (hs : ∀ w, S' w → S w) : ∀ (fuel : Nat) (listed : Array Bool) (a : Act) (w : World), wpAnyH P md ops Q S' fuel listed a w → wpAnyH P md ops Q S fuel listed a w
  | 0, _, _, _, h => h
  | fuel + 1, _, _, _, h => ⟨h.1, fun i hi => wpOp_mono (fun _ _ h' => ⟨hs _ h'.1, hold_stronger hs fuel _ _ _ h'.2⟩) (h.2 i hi)⟩
end Go.Proofs.Ytojcgmgponnlpaa
namespace Go.Proofs.Ytojcgmgponnlpaa
open Go.RowKit Go.Deep

/-- A deed as a value. -/
def deedV (d : Dd) : Value := .agg #[.int .i64 d.k, .int .i64 d.a, .int .i64 d.b]
theorem deed_in (k a b k' a' b' : Int) (w : World) : (Op.equalIn 10000 70 (.agg #[.int .i64 k, .int .i64 a, .int .i64 b]) (.agg #[.int .i64 k', .int .i64 a', .int .i64 b'])).run Try.prog w = .ok (k == k' && (a == a' && b == b')) w := by
  have hf : (Try.prog.fieldsOf 70).toList = [⟨"Kind", 3, 0, false, "", "", 0⟩, ⟨"A", 3, 1, false, "", "", 8⟩, ⟨"B", 3, 2, false, "", "", 16⟩] := by kernel_rfl
  have t3 := Try.underlying3
  have a3 := Try.isAgg3
  rw [run_equalIn_agg (w := w) 9999 70 _ _ (by kernel_rfl) (by kernel_rfl), hf]
  have h := fun d x y => run_equalIn_int (P := Try.prog) w d 3 .i64 .i64 x y t3
  have hp0 : ∀ (x y z : Value), (part 3 #[x, y, z] 0).run Try.prog w = .ok x w := fun x y z => by simp [part, a3]
  have hp1 : ∀ (x y z : Value), (part 3 #[x, y, z] 1).run Try.prog w = .ok y w := fun x y z => by simp [part, a3]
  have hp2 : ∀ (x y z : Value), (part 3 #[x, y, z] 2).run Try.prog w = .ok z w := fun x y z => by simp [part, a3]
  by_cases h1 : k = k' <;> by_cases h2 : a = a' <;> by_cases h3 : b = b' <;> simp [Op.eqFields, hp0, hp1, hp2, h, h1, h2, h3]
theorem deed_eql (k a b k' a' b' : Int) (w : World) : (binOp .eql 70 (.agg #[.int .i64 k, .int .i64 a, .int .i64 b]) (.agg #[.int .i64 k', .int .i64 a', .int .i64 b'])).run Try.prog w = .ok (.bool (k == k' && (a == a' && b == b'))) w := by
  rw [run_eql_struct, deed_in]; rfl
end Go.Proofs.Ytojcgmgponnlpaa
namespace Go.Proofs.Ytojcgmgponnlpaa
open Go.RowKit Go.Deep Go.Joins

theorem CAt.whole {w : World} {B : Nat} {u t : Value} {c : Lc} (h : CAt w B u t c) : CAt w w.heap.size u t c := by
  obtain ⟨ua, l, na, g, o, nc, rfl, rfl, hL⟩ := h
  exact ⟨ua, l, na, g, o, nc, rfl, rfl, hL.up hL.hB (Nat.le_refl _)⟩
/-- What makes a logic hands back. -/
def OptRes (r : Option Lc) (w : World) (e : Ending) (w' : World) : Prop := CRes w (r.getD zeroC) r.isSome e w'
theorem zeroC_w (w : World) (lo : Nat) : CW w ⟨.slice none 0 0, .slice none 0 0, lo, w.heap.size⟩ zeroC := ⟨none, noLay, none, 0, 0, rfl, rfl, LogW.none w _ _ _⟩
theorem spec_GluedOf_C {w : World} {B B' : Nat} {u t u' t' : Value} {c d : Lc} (h : CAt w B u t c) (h' : CAt w B' u' t' d) (k : c.k ≤ 1048576) (k' : d.k ≤ 1048576) :
    Calls Try.prog 112 #[.agg #[u, t], .agg #[u', t']] w (OptRes (glueC c d) w) := by
  obtain ⟨ua, l, na, g, o, nc, rfl, rfl, hL⟩ := h.whole
  obtain ⟨ua', l', na', g', o', nc', rfl, rfl, hL'⟩ := h'.whole
  refine (spec_GluedOf_any (d0 := ⟨ua, l, c.m, na, g, o, c.k, nc, c.z⟩) (d1 := ⟨ua', l', d.m, na', g', o', d.k, nc', d.z⟩) hL hL' k k').mono fun e w' hm => ?_
  have h1 := hm.cres
  have e1 : glueB c d = (LD.ok ⟨ua, l, c.m, na, g, o, c.k, nc, c.z⟩ && LD.ok ⟨ua', l', d.m, na', g', o', d.k, nc', d.z⟩ && gOk c.m d.m && decide (gN c.m d.m ≤ 12)) := rfl
  unfold OptRes glueC
  rw [← e1] at h1
  cases hb : glueB c d with
  | false => rw [hb] at h1; rw [if_neg (by decide)]; exact h1
  | true => rw [hb] at h1; rw [if_pos rfl]; exact h1
theorem spec_TimesOf_C {w : World} {B B' : Nat} {u t u' t' : Value} {c d : Lc} (h : CAt w B u t c) (h' : CAt w B' u' t' d) :
    Calls Try.prog 113 #[.agg #[u, t], .agg #[u', t']] w (OptRes (timesC c d) w) := by
  obtain ⟨ua, l, na, g, o, nc, rfl, rfl, hL⟩ := h.whole
  obtain ⟨ua', l', na', g', o', nc', rfl, rfl, hL'⟩ := h'.whole
  refine (spec_TimesOf_any (d0 := ⟨ua, l, c.m, na, g, o, c.k, nc, c.z⟩) (d1 := ⟨ua', l', d.m, na', g', o', d.k, nc', d.z⟩) hL hL').mono fun e w' hm => ?_
  have h1 := hm.cres
  have e1 : timesB c d = (LD.ok ⟨ua, l, c.m, na, g, o, c.k, nc, c.z⟩ && LD.ok ⟨ua', l', d.m, na', g', o', d.k, nc', d.z⟩ && decide (c.m.n * d.m.n ≤ 12)) := rfl
  unfold OptRes timesC
  rw [← e1] at h1
  cases hb : timesB c d with
  | false => rw [hb] at h1; rw [if_neg (by decide)]; exact h1
  | true => rw [hb] at h1; rw [if_pos rfl]; exact h1
theorem spec_RingOf_C {w : World} : Calls Try.prog 114 #[.int .i64 6] w (CRes w ringC true) := spec_RingOf_any.mono fun _ _ h => h.cres
/-- A part of a logic that comes back. -/
theorem MadeLog.cw {w : World} {N : Nat} {Z : Nat → Nat → Int} {y : Nat → Nat} {e : Ending} {w' : World} (h : MadeLog w N Z y true e w') : CopyC (Lc.of N Z y) w e w' := by
  obtain ⟨hb, (⟨h0, _⟩ | ⟨_, u, t, rv, rfl, hL⟩)⟩ := h
  · cases h0
  · obtain ⟨ua, l, na, g, nc, rfl, rfl, hW⟩ := hL.logW
    exact ⟨_, _, rfl, hb, ua, l, na, g, nc, rfl, rfl, hW⟩
theorem spec_PartOf_C {w : World} {B : Nat} {u t : Value} {c : Lc} {a b : Int} (h : CAt w B u t c) (hI : c.Is) (hg : goodB c.m.n 2 (two a b) = true) :
    Calls Try.prog 116 #[.agg #[u, t], .int .i64 (partN c a b)] w (CopyC (partL c (partN c a b)) w) := by
  obtain ⟨ua, l, na, g, o, nc, rfl, rfl, hL⟩ := h
  have hs := part_sub hI hg
  refine (spec_PartOf hL (x := partN c a b)).mono fun e w' hm => ?_
  rw [hs] at hm
  exact hm.cw
theorem spec_MadeBy_C {w : World} {B : Nat} {u t : Value} {c : Lc} {a b : Int} (h : CAt w B u t c) :
    Calls Try.prog 117 #[.agg #[u, t], .int .i64 (twoBits a b : Int)] w fun e w' => e = .returned (.int .i64 (partN c a b)) ∧ Below w.heap.size w w' := by
  obtain ⟨ua, l, na, g, o, nc, rfl, rfl, hL⟩ := h
  exact spec_MadeBy hL
theorem l2Both_C {w : World} {B : Nat} {u t : Value} {c : Lc} {a b : Int} (h : CAt w B u t c) :
    Calls Try.prog 115 #[.agg #[u, t], .int .i64 a, .int .i64 b] w fun e w' => e = .returned (.bool (partB c a b)) ∧ Below w.heap.size w w' := by
  obtain ⟨ua, l, na, g, o, nc, rfl, rfl, hL⟩ := h
  exact l2Both_any hL
set_option maxRecDepth 100000 in
set_option maxHeartbeats 4000000 in
theorem mk_no0 {w : World} {B : Nat} {ua : Option Addr} {l : Lay} {na : Option Addr} {g o nc : Nat} {c : Lc} {x b : Int} (h : LogAt w B ua l c.m na g o c.k c.z) (hI : c.Is) (hb : (b == 0) = false) :
    Calls Try.prog 86 #[.agg #[.slice ua c.m.n l.cap, .slice na c.k nc], .agg #[.int .i64 0, .int .i64 x, .int .i64 b]] w (OptRes none w) := by
  have X := BoxN.start w #[.slice ua c.m.n l.cap, .slice na c.k nc] 26
  have V := BoxN.start (w.alloc (.cells #[.slice ua c.m.n l.cap, .slice na c.k nc] 26)) #[.int .i64 0, .int .i64 x, .int .i64 b] 70
  have R := TwoAt.new ((w.alloc (.cells #[.slice ua c.m.n l.cap, .slice na c.k nc] 26)).alloc (.cells #[.int .i64 0, .int .i64 x, .int .i64 b] 70)) (.slice none 0 0) (.slice none 0 0) 26
  have bR := (Below.refl ((w.alloc (.cells #[.slice ua c.m.n l.cap, .slice na c.k nc] 26)).alloc (.cells #[.int .i64 0, .int .i64 x, .int .i64 b] 70)).heap.size ((w.alloc (.cells #[.slice ua c.m.n l.cap, .slice na c.k nc] 26)).alloc (.cells #[.int .i64 0, .int .i64 x, .int .i64 b] 70))).alloc (Nat.le_refl _) (.cells #[.slice none 0 0, .slice none 0 0] 26)
  have V2 := V.step bR
  have X2 := (X.step V.below).step bR
  rw [World.size_alloc, World.size_alloc] at R
  have bw := X2.below
  have hsz : w.heap.size + 3 ≤ (((w.alloc (.cells #[.slice ua c.m.n l.cap, .slice na c.k nc] 26)).alloc (.cells #[.int .i64 0, .int .i64 x, .int .i64 b] 70)).alloc (.cells #[.slice none 0 0, .slice none 0 0] 26)).heap.size := by simp
  have HC : Hid (CAt (((w.alloc (.cells #[.slice ua c.m.n l.cap, .slice na c.k nc] 26)).alloc (.cells #[.int .i64 0, .int .i64 x, .int .i64 b] 70)).alloc (.cells #[.slice none 0 0, .slice none 0 0] 26)) B (.slice ua c.m.n l.cap) (.slice na c.k nc) c) := ⟨ua, l, na, g, o, nc, rfl, rfl, h.step bw⟩
  have hBw := h.hB
  have q0 := X2.cell 0 rfl
  have q1 := X2.cell 1 rfl
  have v0 := V2.cell 0 rfl
  have v1 := V2.cell 1 rfl
  have v2 := V2.cell 2 rfl
  rw [World.size_alloc] at v0 v1 v2
  have r0 := R.c0
  have r1 := R.c1
  have r2 := R.f0
  have r3 := R.f1
  have hkc : c.k ≤ 12 := by have := hI.small; omega
  have e1 := deed_eql 0 x b 2 0 0
  clear h X V
  go_enter Try.func86, Try.ntmps86
  go_wp2_with fail
  refine bodyPost_ret (v := .tuple #[.agg #[.slice none 0 0, .slice none 0 0], .bool false]) (by simp [results, Try.results86, go_sem]) rfl ⟨_, _, rfl, bw, zeroC_w _ _⟩
set_option maxRecDepth 100000 in
set_option maxHeartbeats 4000000 in
theorem mk_no1 {w : World} {B : Nat} {ua : Option Addr} {l : Lay} {na : Option Addr} {g o nc : Nat} {c : Lc} {x b : Int} (h : LogAt w B ua l c.m na g o c.k c.z) (hI : c.Is) (hb : (b == 0) = false) :
    Calls Try.prog 86 #[.agg #[.slice ua c.m.n l.cap, .slice na c.k nc], .agg #[.int .i64 1, .int .i64 x, .int .i64 b]] w (OptRes none w) := by
  have X := BoxN.start w #[.slice ua c.m.n l.cap, .slice na c.k nc] 26
  have V := BoxN.start (w.alloc (.cells #[.slice ua c.m.n l.cap, .slice na c.k nc] 26)) #[.int .i64 1, .int .i64 x, .int .i64 b] 70
  have R := TwoAt.new ((w.alloc (.cells #[.slice ua c.m.n l.cap, .slice na c.k nc] 26)).alloc (.cells #[.int .i64 1, .int .i64 x, .int .i64 b] 70)) (.slice none 0 0) (.slice none 0 0) 26
  have bR := (Below.refl ((w.alloc (.cells #[.slice ua c.m.n l.cap, .slice na c.k nc] 26)).alloc (.cells #[.int .i64 1, .int .i64 x, .int .i64 b] 70)).heap.size ((w.alloc (.cells #[.slice ua c.m.n l.cap, .slice na c.k nc] 26)).alloc (.cells #[.int .i64 1, .int .i64 x, .int .i64 b] 70))).alloc (Nat.le_refl _) (.cells #[.slice none 0 0, .slice none 0 0] 26)
  have V2 := V.step bR
  have X2 := (X.step V.below).step bR
  rw [World.size_alloc, World.size_alloc] at R
  have bw := X2.below
  have hsz : w.heap.size + 3 ≤ (((w.alloc (.cells #[.slice ua c.m.n l.cap, .slice na c.k nc] 26)).alloc (.cells #[.int .i64 1, .int .i64 x, .int .i64 b] 70)).alloc (.cells #[.slice none 0 0, .slice none 0 0] 26)).heap.size := by simp
  have HC : Hid (CAt (((w.alloc (.cells #[.slice ua c.m.n l.cap, .slice na c.k nc] 26)).alloc (.cells #[.int .i64 1, .int .i64 x, .int .i64 b] 70)).alloc (.cells #[.slice none 0 0, .slice none 0 0] 26)) B (.slice ua c.m.n l.cap) (.slice na c.k nc) c) := ⟨ua, l, na, g, o, nc, rfl, rfl, h.step bw⟩
  have hBw := h.hB
  have q0 := X2.cell 0 rfl
  have q1 := X2.cell 1 rfl
  have v0 := V2.cell 0 rfl
  have v1 := V2.cell 1 rfl
  have v2 := V2.cell 2 rfl
  rw [World.size_alloc] at v0 v1 v2
  have r0 := R.c0
  have r1 := R.c1
  have r2 := R.f0
  have r3 := R.f1
  have hkc : c.k ≤ 12 := by have := hI.small; omega
  have e1 := deed_eql 1 x b 2 0 0
  clear h X V
  go_enter Try.func86, Try.ntmps86
  go_wp2_with fail
  refine bodyPost_ret (v := .tuple #[.agg #[.slice none 0 0, .slice none 0 0], .bool false]) (by simp [results, Try.results86, go_sem]) rfl ⟨_, _, rfl, bw, zeroC_w _ _⟩
set_option maxRecDepth 100000 in
set_option maxHeartbeats 4000000 in
theorem mk_no2 {w : World} {B : Nat} {ua : Option Addr} {l : Lay} {na : Option Addr} {g o nc : Nat} {c : Lc} {x b : Int} (h : LogAt w B ua l c.m na g o c.k c.z) (hI : c.Is) (hz : (x == 0 && b == 0) = false) :
    Calls Try.prog 86 #[.agg #[.slice ua c.m.n l.cap, .slice na c.k nc], .agg #[.int .i64 2, .int .i64 x, .int .i64 b]] w (OptRes none w) := by
  have X := BoxN.start w #[.slice ua c.m.n l.cap, .slice na c.k nc] 26
  have V := BoxN.start (w.alloc (.cells #[.slice ua c.m.n l.cap, .slice na c.k nc] 26)) #[.int .i64 2, .int .i64 x, .int .i64 b] 70
  have R := TwoAt.new ((w.alloc (.cells #[.slice ua c.m.n l.cap, .slice na c.k nc] 26)).alloc (.cells #[.int .i64 2, .int .i64 x, .int .i64 b] 70)) (.slice none 0 0) (.slice none 0 0) 26
  have bR := (Below.refl ((w.alloc (.cells #[.slice ua c.m.n l.cap, .slice na c.k nc] 26)).alloc (.cells #[.int .i64 2, .int .i64 x, .int .i64 b] 70)).heap.size ((w.alloc (.cells #[.slice ua c.m.n l.cap, .slice na c.k nc] 26)).alloc (.cells #[.int .i64 2, .int .i64 x, .int .i64 b] 70))).alloc (Nat.le_refl _) (.cells #[.slice none 0 0, .slice none 0 0] 26)
  have V2 := V.step bR
  have X2 := (X.step V.below).step bR
  rw [World.size_alloc, World.size_alloc] at R
  have bw := X2.below
  have hsz : w.heap.size + 3 ≤ (((w.alloc (.cells #[.slice ua c.m.n l.cap, .slice na c.k nc] 26)).alloc (.cells #[.int .i64 2, .int .i64 x, .int .i64 b] 70)).alloc (.cells #[.slice none 0 0, .slice none 0 0] 26)).heap.size := by simp
  have HC : Hid (CAt (((w.alloc (.cells #[.slice ua c.m.n l.cap, .slice na c.k nc] 26)).alloc (.cells #[.int .i64 2, .int .i64 x, .int .i64 b] 70)).alloc (.cells #[.slice none 0 0, .slice none 0 0] 26)) B (.slice ua c.m.n l.cap) (.slice na c.k nc) c) := ⟨ua, l, na, g, o, nc, rfl, rfl, h.step bw⟩
  have hBw := h.hB
  have q0 := X2.cell 0 rfl
  have q1 := X2.cell 1 rfl
  have v0 := V2.cell 0 rfl
  have v1 := V2.cell 1 rfl
  have v2 := V2.cell 2 rfl
  rw [World.size_alloc] at v0 v1 v2
  have r0 := R.c0
  have r1 := R.c1
  have r2 := R.f0
  have r3 := R.f1
  have hkc : c.k ≤ 12 := by have := hI.small; omega
  have e1 := fun w => (deed_eql 2 x b 2 0 0 w).trans (by rw [hz])
  clear h X V
  go_enter Try.func86, Try.ntmps86
  go_wp2_with fail
  refine bodyPost_ret (v := .tuple #[.agg #[.slice none 0 0, .slice none 0 0], .bool false]) (by simp [results, Try.results86, go_sem]) rfl ⟨_, _, rfl, bw, zeroC_w _ _⟩
set_option maxRecDepth 100000 in
set_option maxHeartbeats 4000000 in
theorem mk_noO {w : World} {B : Nat} {ua : Option Addr} {l : Lay} {na : Option Addr} {g o nc : Nat} {c : Lc} {k x b : Int} (h : LogAt w B ua l c.m na g o c.k c.z) (hI : c.Is) (h0 : (k == 0) = false) (h1 : (k == 1) = false) (h2 : (k == 2) = false) (h3 : (k == 3) = false) :
    Calls Try.prog 86 #[.agg #[.slice ua c.m.n l.cap, .slice na c.k nc], .agg #[.int .i64 k, .int .i64 x, .int .i64 b]] w (OptRes none w) := by
  have X := BoxN.start w #[.slice ua c.m.n l.cap, .slice na c.k nc] 26
  have V := BoxN.start (w.alloc (.cells #[.slice ua c.m.n l.cap, .slice na c.k nc] 26)) #[.int .i64 k, .int .i64 x, .int .i64 b] 70
  have R := TwoAt.new ((w.alloc (.cells #[.slice ua c.m.n l.cap, .slice na c.k nc] 26)).alloc (.cells #[.int .i64 k, .int .i64 x, .int .i64 b] 70)) (.slice none 0 0) (.slice none 0 0) 26
  have bR := (Below.refl ((w.alloc (.cells #[.slice ua c.m.n l.cap, .slice na c.k nc] 26)).alloc (.cells #[.int .i64 k, .int .i64 x, .int .i64 b] 70)).heap.size ((w.alloc (.cells #[.slice ua c.m.n l.cap, .slice na c.k nc] 26)).alloc (.cells #[.int .i64 k, .int .i64 x, .int .i64 b] 70))).alloc (Nat.le_refl _) (.cells #[.slice none 0 0, .slice none 0 0] 26)
  have V2 := V.step bR
  have X2 := (X.step V.below).step bR
  rw [World.size_alloc, World.size_alloc] at R
  have bw := X2.below
  have hsz : w.heap.size + 3 ≤ (((w.alloc (.cells #[.slice ua c.m.n l.cap, .slice na c.k nc] 26)).alloc (.cells #[.int .i64 k, .int .i64 x, .int .i64 b] 70)).alloc (.cells #[.slice none 0 0, .slice none 0 0] 26)).heap.size := by simp
  have HC : Hid (CAt (((w.alloc (.cells #[.slice ua c.m.n l.cap, .slice na c.k nc] 26)).alloc (.cells #[.int .i64 k, .int .i64 x, .int .i64 b] 70)).alloc (.cells #[.slice none 0 0, .slice none 0 0] 26)) B (.slice ua c.m.n l.cap) (.slice na c.k nc) c) := ⟨ua, l, na, g, o, nc, rfl, rfl, h.step bw⟩
  have hBw := h.hB
  have q0 := X2.cell 0 rfl
  have q1 := X2.cell 1 rfl
  have v0 := V2.cell 0 rfl
  have v1 := V2.cell 1 rfl
  have v2 := V2.cell 2 rfl
  rw [World.size_alloc] at v0 v1 v2
  have r0 := R.c0
  have r1 := R.c1
  have r2 := R.f0
  have r3 := R.f1
  have hkc : c.k ≤ 12 := by have := hI.small; omega
  have e1 := fun w => (deed_eql k x b 2 0 0 w).trans (by rw [h2])
  clear h X V
  go_enter Try.func86, Try.ntmps86
  go_wp2_with fail
  refine bodyPost_ret (v := .tuple #[.agg #[.slice none 0 0, .slice none 0 0], .bool false]) (by simp [results, Try.results86, go_sem]) rfl ⟨_, _, rfl, bw, zeroC_w _ _⟩
theorem CW.wider {w : World} {u t : Value} {lo hi lo' hi' : Nat} {c : Lc} (h : CW w ⟨u, t, lo, hi⟩ c) (h1 : lo' ≤ lo) (h2 : hi ≤ hi') (h3 : hi' ≤ w.heap.size) : CW w ⟨u, t, lo', hi'⟩ c := by
  obtain ⟨ua, l, na, g, nc, e1, e2, hW⟩ := h
  exact ⟨ua, l, na, g, nc, e1, e2, (hW.more h2 h3).rebase h1⟩
set_option maxRecDepth 100000 in
set_option maxHeartbeats 4000000 in
theorem mk_glue {w : World} {B : Nat} {ua : Option Addr} {l : Lay} {na : Option Addr} {g o nc : Nat} {c : Lc} {x : Int} (h : LogAt w B ua l c.m na g o c.k c.z) (hI : c.Is)  :
    Calls Try.prog 86 #[.agg #[.slice ua c.m.n l.cap, .slice na c.k nc], .agg #[.int .i64 0, .int .i64 x, .int .i64 0]] w (OptRes (glueC c (setsC x)) w) := by
  have X := BoxN.start w #[.slice ua c.m.n l.cap, .slice na c.k nc] 26
  have V := BoxN.start (w.alloc (.cells #[.slice ua c.m.n l.cap, .slice na c.k nc] 26)) #[.int .i64 0, .int .i64 x, .int .i64 0] 70
  have R := TwoAt.new ((w.alloc (.cells #[.slice ua c.m.n l.cap, .slice na c.k nc] 26)).alloc (.cells #[.int .i64 0, .int .i64 x, .int .i64 0] 70)) (.slice none 0 0) (.slice none 0 0) 26
  have bR := (Below.refl ((w.alloc (.cells #[.slice ua c.m.n l.cap, .slice na c.k nc] 26)).alloc (.cells #[.int .i64 0, .int .i64 x, .int .i64 0] 70)).heap.size ((w.alloc (.cells #[.slice ua c.m.n l.cap, .slice na c.k nc] 26)).alloc (.cells #[.int .i64 0, .int .i64 x, .int .i64 0] 70))).alloc (Nat.le_refl _) (.cells #[.slice none 0 0, .slice none 0 0] 26)
  have V2 := V.step bR
  have X2 := (X.step V.below).step bR
  rw [World.size_alloc, World.size_alloc] at R
  have bw := X2.below
  have hsz : w.heap.size + 3 ≤ (((w.alloc (.cells #[.slice ua c.m.n l.cap, .slice na c.k nc] 26)).alloc (.cells #[.int .i64 0, .int .i64 x, .int .i64 0] 70)).alloc (.cells #[.slice none 0 0, .slice none 0 0] 26)).heap.size := by simp
  have HC : Hid (CAt (((w.alloc (.cells #[.slice ua c.m.n l.cap, .slice na c.k nc] 26)).alloc (.cells #[.int .i64 0, .int .i64 x, .int .i64 0] 70)).alloc (.cells #[.slice none 0 0, .slice none 0 0] 26)) B (.slice ua c.m.n l.cap) (.slice na c.k nc) c) := ⟨ua, l, na, g, o, nc, rfl, rfl, h.step bw⟩
  have hBw := h.hB
  have q0 := X2.cell 0 rfl
  have q1 := X2.cell 1 rfl
  have v0 := V2.cell 0 rfl
  have v1 := V2.cell 1 rfl
  have v2 := V2.cell 2 rfl
  rw [World.size_alloc] at v0 v1 v2
  have r0 := R.c0
  have r1 := R.c1
  have r2 := R.f0
  have r3 := R.f1
  have hkc : c.k ≤ 12 := by have := hI.small; omega
  obtain ⟨d, ed⟩ : ∃ d, setsC x = d := ⟨_, rfl⟩
  obtain ⟨ok, eo⟩ : ∃ b, setsOkB x = b := ⟨_, rfl⟩
  have HS : Hid (∀ w, Calls Try.prog 31 #[.int .i64 x] w (CRes w d ok)) := fun w => by rw [← ed, ← eo]; exact spec_SetsOf_C
  have HD : Hid (ok = true → d.Is) := fun hh => by rw [← ed]; exact setsC_is (by rw [eo]; exact hh)
  have HN : Hid (ok = false → glueC c d = none) := fun hh => by rw [← ed]; exact glueC_no (by rw [setsC_ok, eo]; exact hh)
  rw [ed]
  clear ed eo
  have e1 := deed_eql 0 x 0 2 0 0
  clear h X V
  go_enter Try.func86, Try.ntmps86
  go_wp2_with fail
  generalize (((w.alloc (.cells #[.slice ua c.m.n l.cap, .slice na c.k nc] 26)).alloc (.cells #[.int .i64 0, .int .i64 x, .int .i64 0] 70)).alloc (.cells #[.slice none 0 0, .slice none 0 0] 26)) = W at X2 V2 R bR bw hsz HC q0 q1 v0 v1 v2 r0 r1 r2 r3 ⊢
  go_at_call 31
  refine (HS.out _).mono ?_
  rintro e w1 ⟨_, _, rfl, b1, ud, ld, nd, gd, ncd, rfl, rfl, hWd⟩
  have hz1 := b1.size
  have Y := TwoAt.new w1 (.slice ud d.m.n ld.cap) (.slice nd d.k ncd) 26
  have bb := (Below.refl w1.heap.size w1).alloc (Nat.le_refl _) (.cells #[.slice ud d.m.n ld.cap, .slice nd d.k ncd] 26)
  have X3 := (X2.step b1).step bb
  have R3 := (R.below b1 (by omega)).below bb (by omega)
  have HC3 := Lib.hid ((HC.out.step b1).step bb)
  have HCd : Hid (CAt (w1.alloc (.cells #[.slice ud d.m.n ld.cap, .slice nd d.k ncd] 26)) w1.heap.size (.slice ud d.m.n ld.cap) (.slice nd d.k ncd) d) := ⟨ud, ld, nd, gd, 0, ncd, rfl, rfl, hWd.logAt.step bb⟩
  have bw3 := (bw.trans (b1.mono (by omega))).trans (bb.mono (by omega))
  have hs3 : w1.heap.size ≤ (w1.alloc (.cells #[.slice ud d.m.n ld.cap, .slice nd d.k ncd] 26)).heap.size := by simp
  clear hWd X2 R bw q0 q1 v0 v1 v2 r0 r1 r2 r3
  have q0 := X3.cell 0 rfl
  have q1 := X3.cell 1 rfl
  have y0 := Y.c0
  have y1 := Y.c1
  have r0 := R3.c0
  have r1 := R3.c1
  have r2 := R3.f0
  have r3 := R3.f1
  cases ok with
  | false =>
    have HN1 := Lib.hid (HN.out rfl)
    go_wp2_with fail
    have hfin := (R3.set0 (.slice none 0 0)).set1 (.slice none 0 0)
    have t0 := hfin.c0
    have t1 := hfin.c1
    have hon := set2_only (w1.alloc (.cells #[.slice ud d.m.n ld.cap, .slice nd d.k ncd] 26)) (w.heap.size + 1 + 1) (.slice none 0 0) (.slice none 0 0)
    refine bodyPost_ret (v := .tuple #[.agg #[.slice none 0 0, .slice none 0 0], .bool false]) (by simp [results, Try.results86, go_sem, t0, t1]) rfl ?_
    rw [HN1.out]
    exact ⟨_, _, rfl, bw3.trans (hon.below fun j hj => by have hj' : j = w.heap.size + 1 + 1 := hj; omega), zeroC_w _ _⟩
  | true =>
    have HDd := Lib.hid (HD.out rfl)
    have hkd : d.k ≤ 12 := by have := HDd.out.small; omega
    go_wp2_with fail
    generalize w1.alloc (.cells #[.slice ud d.m.n ld.cap, .slice nd d.k ncd] 26) = w2 at Y bb X3 R3 HC3 HCd bw3 hs3 q0 q1 y0 y1 r0 r1 r2 r3 ⊢
    go_at_call 112
    refine (spec_GluedOf_C HC3.out HCd.out (by omega) (by omega)).mono ?_
    rintro e w4 ⟨_, _, rfl, b4, uf, lf, nf, gf, ncf, rfl, rfl, hWf⟩
    have hz4 := b4.size
    have R4 := R3.below b4 (by omega)
    have HF : Hid (CW w4 ⟨.slice uf ((glueC c d).getD zeroC).m.n lf.cap, .slice nf ((glueC c d).getD zeroC).k ncf, w2.heap.size, w4.heap.size⟩ ((glueC c d).getD zeroC)) := ⟨uf, lf, nf, gf, ncf, rfl, rfl, hWf⟩
    have bw4 := bw3.trans (b4.mono bw3.size)
    clear hWf q0 q1 y0 y1 r0 r1 r2 r3
    have r0 := R4.c0
    have r1 := R4.c1
    have r2 := R4.f0
    have r3 := R4.f1
    go_wp2_with fail
    have hfin := (R4.set0 (.slice uf ((glueC c d).getD zeroC).m.n lf.cap)).set1 (.slice nf ((glueC c d).getD zeroC).k ncf)
    have t0 := hfin.c0
    have t1 := hfin.c1
    have hon := set2_only w4 (w.heap.size + 1 + 1) (.slice uf ((glueC c d).getD zeroC).m.n lf.cap) (.slice nf ((glueC c d).getD zeroC).k ncf)
    have hs5 : w4.heap.size ≤ ((w4.setCell ⟨w.heap.size + 1 + 1, 0, none⟩ (.slice uf ((glueC c d).getD zeroC).m.n lf.cap)).setCell ⟨w.heap.size + 1 + 1, 1, none⟩ (.slice nf ((glueC c d).getD zeroC).k ncf)).heap.size := by simp
    refine bodyPost_ret (v := .tuple #[.agg #[.slice uf ((glueC c d).getD zeroC).m.n lf.cap, .slice nf ((glueC c d).getD zeroC).k ncf], .bool (glueC c d).isSome]) (by simp [results, Try.results86, go_sem, t0, t1]) rfl ⟨_, _, rfl, bw4.trans (hon.below fun j hj => by have hj' : j = w.heap.size + 1 + 1 := hj; omega), ?_⟩
    exact (HF.out.chg (Chg.of_only hon) fun j hj => .inl (by have hj' : j = w.heap.size + 1 + 1 := hj; show j < w2.heap.size; omega)).wider (by show w.heap.size ≤ w2.heap.size; omega) hs5 (Nat.le_refl _)
set_option maxRecDepth 100000 in
set_option maxHeartbeats 4000000 in
theorem mk_times {w : World} {B : Nat} {ua : Option Addr} {l : Lay} {na : Option Addr} {g o nc : Nat} {c : Lc} {x : Int} (h : LogAt w B ua l c.m na g o c.k c.z) (hI : c.Is)  :
    Calls Try.prog 86 #[.agg #[.slice ua c.m.n l.cap, .slice na c.k nc], .agg #[.int .i64 1, .int .i64 x, .int .i64 0]] w (OptRes (timesC c (setsC x)) w) := by
  have X := BoxN.start w #[.slice ua c.m.n l.cap, .slice na c.k nc] 26
  have V := BoxN.start (w.alloc (.cells #[.slice ua c.m.n l.cap, .slice na c.k nc] 26)) #[.int .i64 1, .int .i64 x, .int .i64 0] 70
  have R := TwoAt.new ((w.alloc (.cells #[.slice ua c.m.n l.cap, .slice na c.k nc] 26)).alloc (.cells #[.int .i64 1, .int .i64 x, .int .i64 0] 70)) (.slice none 0 0) (.slice none 0 0) 26
  have bR := (Below.refl ((w.alloc (.cells #[.slice ua c.m.n l.cap, .slice na c.k nc] 26)).alloc (.cells #[.int .i64 1, .int .i64 x, .int .i64 0] 70)).heap.size ((w.alloc (.cells #[.slice ua c.m.n l.cap, .slice na c.k nc] 26)).alloc (.cells #[.int .i64 1, .int .i64 x, .int .i64 0] 70))).alloc (Nat.le_refl _) (.cells #[.slice none 0 0, .slice none 0 0] 26)
  have V2 := V.step bR
  have X2 := (X.step V.below).step bR
  rw [World.size_alloc, World.size_alloc] at R
  have bw := X2.below
  have hsz : w.heap.size + 3 ≤ (((w.alloc (.cells #[.slice ua c.m.n l.cap, .slice na c.k nc] 26)).alloc (.cells #[.int .i64 1, .int .i64 x, .int .i64 0] 70)).alloc (.cells #[.slice none 0 0, .slice none 0 0] 26)).heap.size := by simp
  have HC : Hid (CAt (((w.alloc (.cells #[.slice ua c.m.n l.cap, .slice na c.k nc] 26)).alloc (.cells #[.int .i64 1, .int .i64 x, .int .i64 0] 70)).alloc (.cells #[.slice none 0 0, .slice none 0 0] 26)) B (.slice ua c.m.n l.cap) (.slice na c.k nc) c) := ⟨ua, l, na, g, o, nc, rfl, rfl, h.step bw⟩
  have hBw := h.hB
  have q0 := X2.cell 0 rfl
  have q1 := X2.cell 1 rfl
  have v0 := V2.cell 0 rfl
  have v1 := V2.cell 1 rfl
  have v2 := V2.cell 2 rfl
  rw [World.size_alloc] at v0 v1 v2
  have r0 := R.c0
  have r1 := R.c1
  have r2 := R.f0
  have r3 := R.f1
  have hkc : c.k ≤ 12 := by have := hI.small; omega
  obtain ⟨d, ed⟩ : ∃ d, setsC x = d := ⟨_, rfl⟩
  obtain ⟨ok, eo⟩ : ∃ b, setsOkB x = b := ⟨_, rfl⟩
  have HS : Hid (∀ w, Calls Try.prog 31 #[.int .i64 x] w (CRes w d ok)) := fun w => by rw [← ed, ← eo]; exact spec_SetsOf_C
  have HD : Hid (ok = true → d.Is) := fun hh => by rw [← ed]; exact setsC_is (by rw [eo]; exact hh)
  have HN : Hid (ok = false → timesC c d = none) := fun hh => by rw [← ed]; exact timesC_no (by rw [setsC_ok, eo]; exact hh)
  rw [ed]
  clear ed eo
  have e1 := deed_eql 1 x 0 2 0 0
  clear h X V
  go_enter Try.func86, Try.ntmps86
  go_wp2_with fail
  generalize (((w.alloc (.cells #[.slice ua c.m.n l.cap, .slice na c.k nc] 26)).alloc (.cells #[.int .i64 1, .int .i64 x, .int .i64 0] 70)).alloc (.cells #[.slice none 0 0, .slice none 0 0] 26)) = W at X2 V2 R bR bw hsz HC q0 q1 v0 v1 v2 r0 r1 r2 r3 ⊢
  go_at_call 31
  refine (HS.out _).mono ?_
  rintro e w1 ⟨_, _, rfl, b1, ud, ld, nd, gd, ncd, rfl, rfl, hWd⟩
  have hz1 := b1.size
  have Y := TwoAt.new w1 (.slice ud d.m.n ld.cap) (.slice nd d.k ncd) 26
  have bb := (Below.refl w1.heap.size w1).alloc (Nat.le_refl _) (.cells #[.slice ud d.m.n ld.cap, .slice nd d.k ncd] 26)
  have X3 := (X2.step b1).step bb
  have R3 := (R.below b1 (by omega)).below bb (by omega)
  have HC3 := Lib.hid ((HC.out.step b1).step bb)
  have HCd : Hid (CAt (w1.alloc (.cells #[.slice ud d.m.n ld.cap, .slice nd d.k ncd] 26)) w1.heap.size (.slice ud d.m.n ld.cap) (.slice nd d.k ncd) d) := ⟨ud, ld, nd, gd, 0, ncd, rfl, rfl, hWd.logAt.step bb⟩
  have bw3 := (bw.trans (b1.mono (by omega))).trans (bb.mono (by omega))
  have hs3 : w1.heap.size ≤ (w1.alloc (.cells #[.slice ud d.m.n ld.cap, .slice nd d.k ncd] 26)).heap.size := by simp
  clear hWd X2 R bw q0 q1 v0 v1 v2 r0 r1 r2 r3
  have q0 := X3.cell 0 rfl
  have q1 := X3.cell 1 rfl
  have y0 := Y.c0
  have y1 := Y.c1
  have r0 := R3.c0
  have r1 := R3.c1
  have r2 := R3.f0
  have r3 := R3.f1
  cases ok with
  | false =>
    have HN1 := Lib.hid (HN.out rfl)
    go_wp2_with fail
    have hfin := (R3.set0 (.slice none 0 0)).set1 (.slice none 0 0)
    have t0 := hfin.c0
    have t1 := hfin.c1
    have hon := set2_only (w1.alloc (.cells #[.slice ud d.m.n ld.cap, .slice nd d.k ncd] 26)) (w.heap.size + 1 + 1) (.slice none 0 0) (.slice none 0 0)
    refine bodyPost_ret (v := .tuple #[.agg #[.slice none 0 0, .slice none 0 0], .bool false]) (by simp [results, Try.results86, go_sem, t0, t1]) rfl ?_
    rw [HN1.out]
    exact ⟨_, _, rfl, bw3.trans (hon.below fun j hj => by have hj' : j = w.heap.size + 1 + 1 := hj; omega), zeroC_w _ _⟩
  | true =>
    have HDd := Lib.hid (HD.out rfl)
    have hkd : d.k ≤ 12 := by have := HDd.out.small; omega
    go_wp2_with fail
    generalize w1.alloc (.cells #[.slice ud d.m.n ld.cap, .slice nd d.k ncd] 26) = w2 at Y bb X3 R3 HC3 HCd bw3 hs3 q0 q1 y0 y1 r0 r1 r2 r3 ⊢
    go_at_call 113
    refine (spec_TimesOf_C HC3.out HCd.out).mono ?_
    rintro e w4 ⟨_, _, rfl, b4, uf, lf, nf, gf, ncf, rfl, rfl, hWf⟩
    have hz4 := b4.size
    have R4 := R3.below b4 (by omega)
    have HF : Hid (CW w4 ⟨.slice uf ((timesC c d).getD zeroC).m.n lf.cap, .slice nf ((timesC c d).getD zeroC).k ncf, w2.heap.size, w4.heap.size⟩ ((timesC c d).getD zeroC)) := ⟨uf, lf, nf, gf, ncf, rfl, rfl, hWf⟩
    have bw4 := bw3.trans (b4.mono bw3.size)
    clear hWf q0 q1 y0 y1 r0 r1 r2 r3
    have r0 := R4.c0
    have r1 := R4.c1
    have r2 := R4.f0
    have r3 := R4.f1
    go_wp2_with fail
    have hfin := (R4.set0 (.slice uf ((timesC c d).getD zeroC).m.n lf.cap)).set1 (.slice nf ((timesC c d).getD zeroC).k ncf)
    have t0 := hfin.c0
    have t1 := hfin.c1
    have hon := set2_only w4 (w.heap.size + 1 + 1) (.slice uf ((timesC c d).getD zeroC).m.n lf.cap) (.slice nf ((timesC c d).getD zeroC).k ncf)
    have hs5 : w4.heap.size ≤ ((w4.setCell ⟨w.heap.size + 1 + 1, 0, none⟩ (.slice uf ((timesC c d).getD zeroC).m.n lf.cap)).setCell ⟨w.heap.size + 1 + 1, 1, none⟩ (.slice nf ((timesC c d).getD zeroC).k ncf)).heap.size := by simp
    refine bodyPost_ret (v := .tuple #[.agg #[.slice uf ((timesC c d).getD zeroC).m.n lf.cap, .slice nf ((timesC c d).getD zeroC).k ncf], .bool (timesC c d).isSome]) (by simp [results, Try.results86, go_sem, t0, t1]) rfl ⟨_, _, rfl, bw4.trans (hon.below fun j hj => by have hj' : j = w.heap.size + 1 + 1 := hj; omega), ?_⟩
    exact (HF.out.chg (Chg.of_only hon) fun j hj => .inl (by have hj' : j = w.heap.size + 1 + 1 := hj; show j < w2.heap.size; omega)).wider (by show w.heap.size ≤ w2.heap.size; omega) hs5 (Nat.le_refl _)
set_option maxRecDepth 100000 in
set_option maxHeartbeats 4000000 in
theorem mk_ring {w : World} {B : Nat} {ua : Option Addr} {l : Lay} {na : Option Addr} {g o nc : Nat} {c : Lc}  (h : LogAt w B ua l c.m na g o c.k c.z) (hI : c.Is)  :
    Calls Try.prog 86 #[.agg #[.slice ua c.m.n l.cap, .slice na c.k nc], .agg #[.int .i64 2, .int .i64 0, .int .i64 0]] w (OptRes (glueC c ringC) w) := by
  have X := BoxN.start w #[.slice ua c.m.n l.cap, .slice na c.k nc] 26
  have V := BoxN.start (w.alloc (.cells #[.slice ua c.m.n l.cap, .slice na c.k nc] 26)) #[.int .i64 2, .int .i64 0, .int .i64 0] 70
  have R := TwoAt.new ((w.alloc (.cells #[.slice ua c.m.n l.cap, .slice na c.k nc] 26)).alloc (.cells #[.int .i64 2, .int .i64 0, .int .i64 0] 70)) (.slice none 0 0) (.slice none 0 0) 26
  have bR := (Below.refl ((w.alloc (.cells #[.slice ua c.m.n l.cap, .slice na c.k nc] 26)).alloc (.cells #[.int .i64 2, .int .i64 0, .int .i64 0] 70)).heap.size ((w.alloc (.cells #[.slice ua c.m.n l.cap, .slice na c.k nc] 26)).alloc (.cells #[.int .i64 2, .int .i64 0, .int .i64 0] 70))).alloc (Nat.le_refl _) (.cells #[.slice none 0 0, .slice none 0 0] 26)
  have V2 := V.step bR
  have X2 := (X.step V.below).step bR
  rw [World.size_alloc, World.size_alloc] at R
  have bw := X2.below
  have hsz : w.heap.size + 3 ≤ (((w.alloc (.cells #[.slice ua c.m.n l.cap, .slice na c.k nc] 26)).alloc (.cells #[.int .i64 2, .int .i64 0, .int .i64 0] 70)).alloc (.cells #[.slice none 0 0, .slice none 0 0] 26)).heap.size := by simp
  have HC : Hid (CAt (((w.alloc (.cells #[.slice ua c.m.n l.cap, .slice na c.k nc] 26)).alloc (.cells #[.int .i64 2, .int .i64 0, .int .i64 0] 70)).alloc (.cells #[.slice none 0 0, .slice none 0 0] 26)) B (.slice ua c.m.n l.cap) (.slice na c.k nc) c) := ⟨ua, l, na, g, o, nc, rfl, rfl, h.step bw⟩
  have hBw := h.hB
  have q0 := X2.cell 0 rfl
  have q1 := X2.cell 1 rfl
  have v0 := V2.cell 0 rfl
  have v1 := V2.cell 1 rfl
  have v2 := V2.cell 2 rfl
  rw [World.size_alloc] at v0 v1 v2
  have r0 := R.c0
  have r1 := R.c1
  have r2 := R.f0
  have r3 := R.f1
  have hkc : c.k ≤ 12 := by have := hI.small; omega
  have e1 := deed_eql 2 0 0 2 0 0
  have hkd : ringC.k ≤ 12 := by decide
  obtain ⟨d, ed⟩ : ∃ d, ringC = d := ⟨_, rfl⟩
  have HS : Hid (∀ w, Calls Try.prog 114 #[.int .i64 6] w (CRes w d true)) := fun w => by rw [← ed]; exact spec_RingOf_C
  rw [ed] at hkd ⊢
  clear ed
  clear h X V
  go_enter Try.func86, Try.ntmps86
  go_wp2_with fail
  generalize (((w.alloc (.cells #[.slice ua c.m.n l.cap, .slice na c.k nc] 26)).alloc (.cells #[.int .i64 2, .int .i64 0, .int .i64 0] 70)).alloc (.cells #[.slice none 0 0, .slice none 0 0] 26)) = W at X2 V2 R bR bw hsz HC q0 q1 v0 v1 v2 r0 r1 r2 r3 ⊢
  go_at_call 114
  refine (HS.out _).mono ?_
  rintro e w1 ⟨_, _, rfl, b1, ud, ld, nd, gd, ncd, rfl, rfl, hWd⟩
  have hz1 := b1.size
  have Y := TwoAt.new w1 (.slice ud d.m.n ld.cap) (.slice nd d.k ncd) 26
  have bb := (Below.refl w1.heap.size w1).alloc (Nat.le_refl _) (.cells #[.slice ud d.m.n ld.cap, .slice nd d.k ncd] 26)
  have X3 := (X2.step b1).step bb
  have R3 := (R.below b1 (by omega)).below bb (by omega)
  have HC3 := Lib.hid ((HC.out.step b1).step bb)
  have HCd : Hid (CAt (w1.alloc (.cells #[.slice ud d.m.n ld.cap, .slice nd d.k ncd] 26)) w1.heap.size (.slice ud d.m.n ld.cap) (.slice nd d.k ncd) d) := ⟨ud, ld, nd, gd, 0, ncd, rfl, rfl, hWd.logAt.step bb⟩
  have bw3 := (bw.trans (b1.mono (by omega))).trans (bb.mono (by omega))
  have hs3 : w1.heap.size ≤ (w1.alloc (.cells #[.slice ud d.m.n ld.cap, .slice nd d.k ncd] 26)).heap.size := by simp
  clear hWd X2 R bw q0 q1 v0 v1 v2 r0 r1 r2 r3
  have q0 := X3.cell 0 rfl
  have q1 := X3.cell 1 rfl
  have y0 := Y.c0
  have y1 := Y.c1
  have r0 := R3.c0
  have r1 := R3.c1
  have r2 := R3.f0
  have r3 := R3.f1
  go_wp2_with fail
  generalize w1.alloc (.cells #[.slice ud d.m.n ld.cap, .slice nd d.k ncd] 26) = w2 at Y bb X3 R3 HC3 HCd bw3 hs3 q0 q1 y0 y1 r0 r1 r2 r3 ⊢
  go_at_call 112
  refine (spec_GluedOf_C HC3.out HCd.out (by omega) (by omega)).mono ?_
  rintro e w4 ⟨_, _, rfl, b4, uf, lf, nf, gf, ncf, rfl, rfl, hWf⟩
  have hz4 := b4.size
  have R4 := R3.below b4 (by omega)
  have HF : Hid (CW w4 ⟨.slice uf ((glueC c d).getD zeroC).m.n lf.cap, .slice nf ((glueC c d).getD zeroC).k ncf, w2.heap.size, w4.heap.size⟩ ((glueC c d).getD zeroC)) := ⟨uf, lf, nf, gf, ncf, rfl, rfl, hWf⟩
  have bw4 := bw3.trans (b4.mono bw3.size)
  clear hWf q0 q1 y0 y1 r0 r1 r2 r3
  have r0 := R4.c0
  have r1 := R4.c1
  have r2 := R4.f0
  have r3 := R4.f1
  go_wp2_with fail
  have hfin := (R4.set0 (.slice uf ((glueC c d).getD zeroC).m.n lf.cap)).set1 (.slice nf ((glueC c d).getD zeroC).k ncf)
  have t0 := hfin.c0
  have t1 := hfin.c1
  have hon := set2_only w4 (w.heap.size + 1 + 1) (.slice uf ((glueC c d).getD zeroC).m.n lf.cap) (.slice nf ((glueC c d).getD zeroC).k ncf)
  have hs5 : w4.heap.size ≤ ((w4.setCell ⟨w.heap.size + 1 + 1, 0, none⟩ (.slice uf ((glueC c d).getD zeroC).m.n lf.cap)).setCell ⟨w.heap.size + 1 + 1, 1, none⟩ (.slice nf ((glueC c d).getD zeroC).k ncf)).heap.size := by simp
  refine bodyPost_ret (v := .tuple #[.agg #[.slice uf ((glueC c d).getD zeroC).m.n lf.cap, .slice nf ((glueC c d).getD zeroC).k ncf], .bool (glueC c d).isSome]) (by simp [results, Try.results86, go_sem, t0, t1]) rfl ⟨_, _, rfl, bw4.trans (hon.below fun j hj => by have hj' : j = w.heap.size + 1 + 1 := hj; omega), ?_⟩
  exact (HF.out.chg (Chg.of_only hon) fun j hj => .inl (by have hj' : j = w.heap.size + 1 + 1 := hj; show j < w2.heap.size; omega)).wider (by show w.heap.size ≤ w2.heap.size; omega) hs5 (Nat.le_refl _)
end Go.Proofs.Ytojcgmgponnlpaa
