/- The laws on MeetOf, JoinOf, LeastOf and LatticeOk against the reference, walked at whatever rows. -/
import Derived.Test.YtmgcgkfjmkgfeaaLa
import Derived.Test.YtmgcgkfjmkgfeaaWk
import Derived.Test.YtmgcgkfjmkgfeaaWp
import Derived.Test.YtmgcgkfjmkgfeaaWs
import Derived.Test.YtmgcgkfjmkgfeaaWt
namespace Go.Proofs.Ytmgcgkfjmkgfeaa
open Go.RowKit Go.Deep

set_option maxRecDepth 100000 in
set_option maxHeartbeats 1000000 in
theorem law_ExactMeetOf {a : Option Addr} {l : Lay} {m : Mx} {p q : Int} {w : World} (h : ArgAt w a l m) :
    Calls Try.prog 11 #[.slice a m.n l.cap, .int .i64 p, .int .i64 q] w fun e w' => e = .returned (.bool true) ∧ Below w.heap.size w w' := by
  go_enter Try.func11, Try.ntmps11
  go_wp2_with fail
  go_at_call 42
  refine (szIntSS_any _ _ _ _ _ h.hn h.hL h.mat).mono ?_
  rintro e w' ⟨⟨v, rfl, hv⟩, rfl⟩
  by_cases hneg : v < 0
  · go_wp2_with fail
    go_ret
    exact ⟨rfl, Below.refl _ _⟩
  · obtain ⟨hn, hL, hv0, hv1⟩ : m.n ≤ 1048576 ∧ (∀ r, r < m.n → m.L r ≤ 1048576) ∧ 0 ≤ v ∧ v ≤ 1048576 := hv.resolve_left hneg
    clear hv
    have HL := Lib.hid hL
    clear hL
    go_wp2_with fail
    go_at_call 43
    refine (toIntSS_any _ _ _ _ _ hn HL.out h.mat (Nat.le_refl _)).mono ?_
    rintro e w1 ⟨rfl, hO1⟩
    have k1 := h.step hO1.old
    have x1 := hO1.arg h.hn h.hL
    have b1 := hO1.old
    clear hO1
    go_wp2_with fail
    go_at_call 24
    refine (spec_MeetOf (l := freshLay w.heap.size m) h.hn h.hL x1.mat).mono ?_
    rintro e w2 ⟨rfl, rfl⟩
    go_wp2_with fail
    go_at_call 43
    refine (toIntSS_any _ _ _ _ _ hn HL.out k1.mat (Nat.le_refl _)).mono ?_
    rintro e w2 ⟨rfl, hO2⟩
    have k2 := k1.step hO2.old
    have x2 := hO2.arg h.hn h.hL
    have b2 := hO2.old
    clear hO2
    go_wp2_with fail
    go_at_call 23
    refine (MeetOf_any (l := freshLay w1.heap.size m) h.hn h.hL x2.mat (Nat.le_refl _)).mono ?_
    rintro e w3 ⟨rfl, b3⟩
    have k3 := k2.step b3
    have x3 := x2.step b3
    go_wp2_with fail
    go_at_call 43
    refine (toIntSS_any _ _ _ _ _ hn HL.out k3.mat (Nat.le_refl _)).mono ?_
    rintro e w4 ⟨rfl, hO4⟩
    have x4 := hO4.arg h.hn h.hL
    have x3' := x3.step hO4.old
    have b4 := hO4.old
    clear hO4
    go_wp2_with fail
    go_at_call 44
    refine (eqIntSS_same _ _ _ (freshLay w1.heap.size m) (freshLay w3.heap.size m) m _ h.hn h.hL x3'.mat x4.mat).mono ?_
    rintro e w5 ⟨rfl, hd⟩
    go_wp2_with fail
    go_ret
    exact ⟨rfl, (((b1.trans (b2.mono b1.size)).trans (b3.mono (Nat.le_trans b1.size b2.size))).trans (b4.mono (Nat.le_trans (Nat.le_trans b1.size b2.size) b3.size))).trans (hd.below _)⟩

set_option maxRecDepth 100000 in
set_option maxHeartbeats 1000000 in
theorem law_ExactJoinOf {a : Option Addr} {l : Lay} {m : Mx} {p q : Int} {w : World} (h : ArgAt w a l m) :
    Calls Try.prog 12 #[.slice a m.n l.cap, .int .i64 p, .int .i64 q] w fun e w' => e = .returned (.bool true) ∧ Below w.heap.size w w' := by
  go_enter Try.func12, Try.ntmps12
  go_wp2_with fail
  go_at_call 42
  refine (szIntSS_any _ _ _ _ _ h.hn h.hL h.mat).mono ?_
  rintro e w' ⟨⟨v, rfl, hv⟩, rfl⟩
  by_cases hneg : v < 0
  · go_wp2_with fail
    go_ret
    exact ⟨rfl, Below.refl _ _⟩
  · obtain ⟨hn, hL, hv0, hv1⟩ : m.n ≤ 1048576 ∧ (∀ r, r < m.n → m.L r ≤ 1048576) ∧ 0 ≤ v ∧ v ≤ 1048576 := hv.resolve_left hneg
    clear hv
    have HL := Lib.hid hL
    clear hL
    go_wp2_with fail
    go_at_call 43
    refine (toIntSS_any _ _ _ _ _ hn HL.out h.mat (Nat.le_refl _)).mono ?_
    rintro e w1 ⟨rfl, hO1⟩
    have k1 := h.step hO1.old
    have x1 := hO1.arg h.hn h.hL
    have b1 := hO1.old
    clear hO1
    go_wp2_with fail
    go_at_call 27
    refine (spec_JoinOf (l := freshLay w.heap.size m) h.hn h.hL x1.mat).mono ?_
    rintro e w2 ⟨rfl, rfl⟩
    go_wp2_with fail
    go_at_call 43
    refine (toIntSS_any _ _ _ _ _ hn HL.out k1.mat (Nat.le_refl _)).mono ?_
    rintro e w2 ⟨rfl, hO2⟩
    have k2 := k1.step hO2.old
    have x2 := hO2.arg h.hn h.hL
    have b2 := hO2.old
    clear hO2
    go_wp2_with fail
    go_at_call 26
    refine (JoinOf_any (l := freshLay w1.heap.size m) h.hn h.hL x2.mat (Nat.le_refl _)).mono ?_
    rintro e w3 ⟨rfl, b3⟩
    have k3 := k2.step b3
    have x3 := x2.step b3
    go_wp2_with fail
    go_at_call 43
    refine (toIntSS_any _ _ _ _ _ hn HL.out k3.mat (Nat.le_refl _)).mono ?_
    rintro e w4 ⟨rfl, hO4⟩
    have x4 := hO4.arg h.hn h.hL
    have x3' := x3.step hO4.old
    have b4 := hO4.old
    clear hO4
    go_wp2_with fail
    go_at_call 44
    refine (eqIntSS_same _ _ _ (freshLay w1.heap.size m) (freshLay w3.heap.size m) m _ h.hn h.hL x3'.mat x4.mat).mono ?_
    rintro e w5 ⟨rfl, hd⟩
    go_wp2_with fail
    go_ret
    exact ⟨rfl, (((b1.trans (b2.mono b1.size)).trans (b3.mono (Nat.le_trans b1.size b2.size))).trans (b4.mono (Nat.le_trans (Nat.le_trans b1.size b2.size) b3.size))).trans (hd.below _)⟩

set_option maxRecDepth 100000 in
set_option maxHeartbeats 1000000 in
theorem law_ExactLeastOf {a : Option Addr} {l : Lay} {m : Mx} {w : World} (h : ArgAt w a l m) :
    Calls Try.prog 14 #[.slice a m.n l.cap] w fun e w' => e = .returned (.bool true) ∧ Below w.heap.size w w' := by
  go_enter Try.func14, Try.ntmps14
  go_wp2_with fail
  go_at_call 42
  refine (szIntSS_any _ _ _ _ _ h.hn h.hL h.mat).mono ?_
  rintro e w' ⟨⟨v, rfl, hv⟩, rfl⟩
  by_cases hneg : v < 0
  · go_wp2_with fail
    go_ret
    exact ⟨rfl, Below.refl _ _⟩
  · obtain ⟨hn, hL, hv0, hv1⟩ : m.n ≤ 1048576 ∧ (∀ r, r < m.n → m.L r ≤ 1048576) ∧ 0 ≤ v ∧ v ≤ 1048576 := hv.resolve_left hneg
    clear hv
    have HL := Lib.hid hL
    clear hL
    go_wp2_with fail
    go_at_call 43
    refine (toIntSS_any _ _ _ _ _ hn HL.out h.mat (Nat.le_refl _)).mono ?_
    rintro e w1 ⟨rfl, hO1⟩
    have k1 := h.step hO1.old
    have x1 := hO1.arg h.hn h.hL
    have b1 := hO1.old
    clear hO1
    go_wp2_with fail
    go_at_call 33
    refine (spec_LeastOf (l := freshLay w.heap.size m) h.hn h.hL x1.mat).mono ?_
    rintro e w2 ⟨rfl, rfl⟩
    go_wp2_with fail
    go_at_call 43
    refine (toIntSS_any _ _ _ _ _ hn HL.out k1.mat (Nat.le_refl _)).mono ?_
    rintro e w2 ⟨rfl, hO2⟩
    have k2 := k1.step hO2.old
    have x2 := hO2.arg h.hn h.hL
    have b2 := hO2.old
    clear hO2
    go_wp2_with fail
    go_at_call 31
    refine (LeastOf_any (l := freshLay w1.heap.size m) h.hn h.hL x2.mat (Nat.le_refl _)).mono ?_
    rintro e w3 ⟨rfl, b3⟩
    have k3 := k2.step b3
    have x3 := x2.step b3
    go_wp2_with fail
    go_at_call 43
    refine (toIntSS_any _ _ _ _ _ hn HL.out k3.mat (Nat.le_refl _)).mono ?_
    rintro e w4 ⟨rfl, hO4⟩
    have x4 := hO4.arg h.hn h.hL
    have x3' := x3.step hO4.old
    have b4 := hO4.old
    clear hO4
    go_wp2_with fail
    go_at_call 44
    refine (eqIntSS_same _ _ _ (freshLay w1.heap.size m) (freshLay w3.heap.size m) m _ h.hn h.hL x3'.mat x4.mat).mono ?_
    rintro e w5 ⟨rfl, hd⟩
    go_wp2_with fail
    go_ret
    exact ⟨rfl, (((b1.trans (b2.mono b1.size)).trans (b3.mono (Nat.le_trans b1.size b2.size))).trans (b4.mono (Nat.le_trans (Nat.le_trans b1.size b2.size) b3.size))).trans (hd.below _)⟩

set_option maxRecDepth 100000 in
set_option maxHeartbeats 1000000 in
theorem law_ExactLatticeOk {a : Option Addr} {l : Lay} {m : Mx} {w : World} (h : ArgAt w a l m) :
    Calls Try.prog 13 #[.slice a m.n l.cap] w fun e w' => e = .returned (.bool true) ∧ Below w.heap.size w w' := by
  go_enter Try.func13, Try.ntmps13
  go_wp2_with fail
  go_at_call 42
  refine (szIntSS_any _ _ _ _ _ h.hn h.hL h.mat).mono ?_
  rintro e w' ⟨⟨v, rfl, hv⟩, rfl⟩
  by_cases hneg : v < 0
  · go_wp2_with fail
    go_ret
    exact ⟨rfl, Below.refl _ _⟩
  · obtain ⟨hn, hL, hv0, hv1⟩ : m.n ≤ 1048576 ∧ (∀ r, r < m.n → m.L r ≤ 1048576) ∧ 0 ≤ v ∧ v ≤ 1048576 := hv.resolve_left hneg
    clear hv
    have HL := Lib.hid hL
    clear hL
    go_wp2_with fail
    go_at_call 43
    refine (toIntSS_any _ _ _ _ _ hn HL.out h.mat (Nat.le_refl _)).mono ?_
    rintro e w1 ⟨rfl, hO1⟩
    have k1 := h.step hO1.old
    have x1 := hO1.arg h.hn h.hL
    have b1 := hO1.old
    clear hO1
    go_wp2_with fail
    go_at_call 30
    refine (spec_LatticeOk (l := freshLay w.heap.size m) h.hn h.hL x1.mat).mono ?_
    rintro e w2 ⟨rfl, rfl⟩
    go_wp2_with fail
    go_at_call 43
    refine (toIntSS_any _ _ _ _ _ hn HL.out k1.mat (Nat.le_refl _)).mono ?_
    rintro e w2 ⟨rfl, hO2⟩
    have k2 := k1.step hO2.old
    have x2 := hO2.arg h.hn h.hL
    have b2 := hO2.old
    clear hO2
    go_wp2_with fail
    go_at_call 29
    refine (LatticeOk_any (l := freshLay w1.heap.size m) h.hn h.hL x2.mat (Nat.le_refl _)).mono ?_
    rintro e w3 ⟨rfl, b3⟩
    have k3 := k2.step b3
    have x3 := x2.step b3
    go_wp2_with fail
    go_at_call 43
    refine (toIntSS_any _ _ _ _ _ hn HL.out k3.mat (Nat.le_refl _)).mono ?_
    rintro e w4 ⟨rfl, hO4⟩
    have x4 := hO4.arg h.hn h.hL
    have x3' := x3.step hO4.old
    have b4 := hO4.old
    clear hO4
    go_wp2_with fail
    go_at_call 44
    refine (eqIntSS_same _ _ _ (freshLay w1.heap.size m) (freshLay w3.heap.size m) m _ h.hn h.hL x3'.mat x4.mat).mono ?_
    rintro e w5 ⟨rfl, hd⟩
    go_wp2_with fail
    go_ret
    exact ⟨rfl, (((b1.trans (b2.mono b1.size)).trans (b3.mono (Nat.le_trans b1.size b2.size))).trans (b4.mono (Nat.le_trans (Nat.le_trans b1.size b2.size) b3.size))).trans (hd.below _)⟩
end Go.Proofs.Ytmgcgkfjmkgfeaa
