import Derived.Test.YtanhogaekdcooaaZWv
import Derived.Test.YtanhogaekdcooaaZDa
import Derived.Test.YtanhogaekdcooaaZWc
import Derived.Test.YtanhogaekdcooaaZDn
import Derived.Test.YtanhogaekdcooaaZOi
import Derived.Test.YtanhogaekdcooaaZMath
import Derived.Test.YtanhogaekdcooaaZGa
import Derived.Test.YtanhogaekdcooaaZOa
import Derived.Test.YtanhogaekdcooaaZAa
import Derived.Test.YtanhogaekdcooaaZCe
import Derived.Test.YtanhogaekdcooaaZCf
import Derived.Test.YtanhogaekdcooaaZVf
namespace Go.Proofs.Ytanhogaekdcooaa
open Go.RowKit Go.Deep

/-- Rows that read as others, entry by entry, where both have the same lengths. -/
theorem MatAt.as {w : World} {B : Nat} {a : Option Addr} {l : Lay} {m m' : Mx} (h : MatAt w B a l m) (hn : m'.n = m.n) (hL : ∀ r, r < m.n → m'.L r = m.L r) (hZ : ∀ r, r < m.n → ∀ c, c < m.L r → m'.Z r c = m.Z r c) : MatAt w B a l m' :=
  ⟨fun r hr => by
    have hr' : r < m.n := by omega
    rw [hL r hr']
    exact h.top r hr', fun r hr c hc => by
    have hr' : r < m.n := by omega
    rw [hL r hr'] at hc
    rw [hZ r hr' c hc]
    exact h.row r hr' c hc⟩
end Go.Proofs.Ytanhogaekdcooaa
namespace Go.Proofs.Ytanhogaekdcooaa
open Go.RowKit Go.Deep

end Go.Proofs.Ytanhogaekdcooaa
namespace Go.Proofs.Ytanhogaekdcooaa
open Go.RowKit Go.Deep

/-- The drawn logic in its box, and all that was there before. -/
structure Held (w : World) (ua : Option Addr) (l : Lay) (m : Mx) (na : Option Addr) (g o k nc : Nat) (z : Nat → Int) (P : Nat) (wx : World) : Prop where
  log : LogAt wx P ua l m na g o k z
  box : TwoAt wx P (.slice ua m.n l.cap) (.slice na k nc)
  old : Below w.heap.size w wx
theorem Held.step {w wx w' : World} {ua : Option Addr} {l : Lay} {m : Mx} {na : Option Addr} {g o k nc P : Nat} {z : Nat → Int} (h : Held w ua l m na g o k nc z P wx) (hb : Below wx.heap.size wx w') : Held w ua l m na g o k nc z P w' :=
  ⟨h.log.step hb, h.box.below hb (World.block_lt_of_cell? wx ⟨P, 0, none⟩ h.box.c0), h.old.trans (hb.mono h.old.size)⟩
theorem Held.start {w w1 : World} {ua : Option Addr} {l : Lay} {m : Mx} {na : Option Addr} {g o k : Nat} {z : Nat → Int} (h : Fresh w ua l m na g o k z w1) (nc : Nat) : Held w ua l m na g o k nc z w1.heap.size (w1.alloc (.cells #[.slice ua m.n l.cap, .slice na k nc] 26)) :=
  ⟨h.log.alloc _, TwoAt.new _ _ _ _, h.old.alloc h.old.size _⟩
theorem Ortho.leastV {m : Mx} {z : Nat → Int} {y : Nat → Nat} {o : Nat} (h : Ortho m z y o) : leastV m = (o : Int) := by rw [leastV_yes (orderB_true h.lat.order)]; exact h.eq
end Go.Proofs.Ytanhogaekdcooaa
namespace Go.Proofs.Ytanhogaekdcooaa
open Go.RowKit Go.Deep

end Go.Proofs.Ytanhogaekdcooaa
namespace Go.Proofs.Ytanhogaekdcooaa
open Go.RowKit Go.Deep

end Go.Proofs.Ytanhogaekdcooaa
namespace Go.Proofs.Ytanhogaekdcooaa
open Go.RowKit Go.Deep

/-- A logic of the call's own is one, with so many atoms. -/
theorem LogicData.isB {n o : Nat} {Z : Nat → Nat → Int} {y : Nat → Nat} (h : LogicData n Z y o) : logicB ⟨n, fun _ => n, Z⟩ n (fun a => (y a : Int)) = true := logicB_true h.logic
theorem LogicData.atoms {n o : Nat} {Z : Nat → Nat → Int} {y : Nat → Nat} (h : LogicData n Z y o) : atomsV ⟨n, fun _ => n, Z⟩ = atomsTo ⟨n, fun _ => n, Z⟩ n :=
  atomsV_yes (orderB_true h.order) (by rw [h.ortho.eq]; exact hasI_nat _)
end Go.Proofs.Ytanhogaekdcooaa
namespace Go.Proofs.Ytanhogaekdcooaa
open Go.RowKit Go.Deep

theorem SetsOf_res {w : World} {t : Int} {N : Nat} {ok : Bool} (h1 : (if setsOkB t = true then 2 ^ t.toNat else 0) = N) (h2 : setsOkB t = ok) (h3 : ok = true → 2 ^ t.toNat = N) : Calls Try.prog 15 #[.int .i64 t] w fun e w' => ResL w N setsZ (setsY N) e ok w' := by
  subst h2
  subst h1
  refine SetsOf_any.mono fun e w' h => ?_
  have := h.res
  cases h4 : setsOkB t with
  | true => rw [h4] at this; exact this
  | false =>
    rw [h4] at this
    obtain ⟨ua, l, na, g, nc, h5, h6, h7⟩ := this
    exact ⟨ua, l, na, g, nc, h5, ⟨h6.mat, h6.row.congr (fun c hc => absurd hc (Nat.not_lt_zero _)), h6.ne, h6.nb, h6.bb, h6.bG, h6.bg, h6.hn, h6.hL, h6.hk, h6.hB⟩, h7⟩
end Go.Proofs.Ytanhogaekdcooaa
namespace Go.Proofs.Ytanhogaekdcooaa
open Go.RowKit Go.Deep
section
variable {m : Mx} {k : Nat} {z : Nat → Int} {y : Nat → Nat} {o a b d : Nat}
theorem Ortho.keepsV (h : Ortho m z y o) (hl : logicB m k z = true) : keepsV m k z = keepsB m y := by
  have hkn : k = m.n := (logicB_is hl).pair.len
  subst hkn
  exact keepsV_is h
end
end Go.Proofs.Ytanhogaekdcooaa
namespace Go.Proofs.Ytanhogaekdcooaa
open Go.RowKit Go.Deep

/-- What ModularOk, BooleanOk and KeepsOk tell of a logic together. -/
theorem mod_facts (m : Mx) (k : Nat) (z : Nat → Int) : (boolV m k z = true ∧ modV m k z = true ∧ keepsV m k z = true) ∨ (boolV m k z = false ∧ modV m k z = true ∧ keepsV m k z = true) ∨ (boolV m k z = false ∧ modV m k z = false) := by
  cases hl : logicB m k z with
  | false => exact .inr (.inr ⟨by unfold boolV; rw [hl]; rfl, by unfold modV; rw [hl]; rfl⟩)
  | true =>
    obtain ⟨y, o, hO⟩ := (logicB_is hl).ortho
    have hb : boolV m k z = boolB m := by unfold boolV; rw [hl]; rfl
    have hm : modV m k z = modB m := by unfold modV; rw [hl]; rfl
    rw [hb, hm, hO.keepsV hl]
    cases h1 : modB m with
    | true =>
      have h2 := hO.mod_keeps h1
      cases h3 : boolB m with
      | true => exact .inl ⟨rfl, rfl, h2⟩
      | false => exact .inr (.inl ⟨rfl, rfl, h2⟩)
    | false =>
      refine .inr (.inr ⟨?_, rfl⟩)
      cases h3 : boolB m with
      | false => rfl
      | true => rw [hO.bool_mod h3] at h1; cases h1

abbrev fourM : Mx := ⟨4, fun _ => 4, setsZ⟩
abbrev mo2Z : Nat → Nat → Int := gZ fourM fourM (setsY 4) (setsY 4)
abbrev mo2Y : Nat → Nat := gY fourM fourM (setsY 4) (setsY 4)
abbrev mo2M : Mx := ⟨6, fun _ => 6, mo2Z⟩
theorem mo2_logic : logicB mo2M 6 (fun c => (mo2Y c : Int)) = true := (checkL_is (n := 6) (o := 0) (by decide +kernel)).isB
theorem mo2_mod : modV mo2M 6 (fun c => (mo2Y c : Int)) = true := by
  have e : modB mo2M = true := by decide +kernel
  unfold modV
  rw [mo2_logic, e]; rfl
theorem mo2_bool : boolV mo2M 6 (fun c => (mo2Y c : Int)) = false := by
  have e : boolB mo2M = false := by decide +kernel
  unfold boolV
  rw [mo2_logic, e]; rfl
theorem four_ok : logicB fourM 4 (fun c => (setsY 4 c : Int)) = true := (show LogicData 4 setsZ (setsY 4) 0 from sets_data 2 (by omega)).isB
theorem GluedFour {w : World} {B : Nat} {ua na : Option Addr} {l : Lay} {g nc : Nat} (h : LogAt w B ua l fourM na g 0 4 (fun c => (setsY 4 c : Int))) :
    Calls Try.prog 16 #[.agg #[.slice ua 4 l.cap, .slice na 4 nc], .agg #[.slice ua 4 l.cap, .slice na 4 nc]] w fun e w' => ResL w 6 mo2Z mo2Y e true w' := by
  obtain ⟨d, hd⟩ : ∃ d : LD, d = ⟨ua, l, fourM, na, g, 0, 4, nc, fun c => (setsY 4 c : Int)⟩ := ⟨_, rfl⟩
  have hAt : d.At w B := by subst hd; exact h
  have hok : d.ok = true := by subst hd; exact four_ok
  have hy : d.y = setsY 4 := by subst hd; funext a; simp [LD.y]
  have hm : d.m = fourM := by subst hd; rfl
  have hu : d.u = .slice ua 4 l.cap := by subst hd; rfl
  have ht : d.t = .slice na 4 nc := by subst hd; rfl
  have e := GluedOf_any hAt hAt
  rw [hu, ht, hok, hy, hm] at e
  refine e.mono fun e' w' q => ?_
  have q2 := q.res
  have eo : (true && true && gOk fourM fourM && decide (gN fourM fourM ≤ 12)) = true := by decide
  rw [eo, if_pos rfl] at q2
  exact q2

set_option maxRecDepth 100000 in
set_option maxHeartbeats 4000000 in
theorem law_ModularOk {A : Option Addr} {b o n cap : Nat} {z : Nat → Nat} {w : World} (h : CodeAt w A b o n cap z) :
    Calls Try.prog 3 #[.slice A n cap] w fun e w' => e = .returned (.bool true) ∧ Below w.heap.size w w' := by
  have hn := h.hn
  have hc := h.hc
  by_cases hbig : 1048576 < n
  · have hbig' : (1048576 : Int) < n := by omega
    clear h
    go_enter Try.func3, Try.ntmps3
    go_wp2_with fail
    go_ret
    exact ⟨rfl, Below.refl _ _⟩
  · have hbig' : ¬ (1048576 : Int) < n := by omega
    go_enter Try.func3, Try.ntmps3
    go_wp2_with fail
    go_at_call 12
    refine (draw_ModularOk h).mono ?_
    rintro e w1 ⟨ua, l, m, na, g, o2, k, nc, zz, rfl, hF⟩
    have H1 := Held.start hF nc
    clear h hF
    have q0 := H1.box.c0
    have q1 := H1.box.c1
    go_wp2_with fail
    go_at_call 13
    refine (ModularOk_any H1.log).mono ?_
    rintro e w2 ⟨rfl, b2⟩
    have H2 := H1.step b2
    clear H1 q0 q1 b2
    have q0 := H2.box.c0
    have q1 := H2.box.c1
    go_wp2_with fail
    go_at_call 14
    refine (spec_ModularOk H2.log).mono ?_
    rintro e w3 ⟨rfl, b3⟩
    have H3 := H2.step b3
    clear H2 q0 q1 b3
    have q0 := H3.box.c0
    have q1 := H3.box.c1
    go_wp2_with fail
    go_at_call 15
    refine (SetsOf_res (t := 2) (N := 4) (ok := true) (by decide) (by decide) (fun _ => by decide)).mono ?_
    rintro e w5 ⟨ua2, l2, na2, g2, nc2, rfl, hg5, b5⟩
    have H5 := H3.step b5
    have bb := (Below.refl w5.heap.size w5).alloc (Nat.le_refl _) (.cells #[.slice ua2 4 l2.cap, .slice na2 4 nc2] 26)
    have Y6 := TwoAt.new w5 (.slice ua2 4 l2.cap) (.slice na2 4 nc2) 26
    have H6 := H5.step bb
    have G6 := Lib.hid (hg5.below bb (Nat.le_refl _))
    clear H3 H5 bb hg5 q0 q1 b5
    have p0 := Y6.c0
    have p1 := Y6.c1
    go_wp2_with fail
    generalize w5.alloc (.cells #[.slice ua2 4 l2.cap, .slice na2 4 nc2] 26) = w6 at Y6 H6 G6 p0 p1 ⊢
    go_at_call 16
    refine (GluedFour (nc := nc2) G6.out.logAt).mono ?_
    rintro e w7 ⟨ua3, l3, na3, g3, nc3, rfl, hg7, b7⟩
    have H7 := H6.step b7
    have bb := (Below.refl w7.heap.size w7).alloc (Nat.le_refl _) (.cells #[.slice ua3 6 l3.cap, .slice na3 6 nc3] 26)
    have Y8 := TwoAt.new w7 (.slice ua3 6 l3.cap) (.slice na3 6 nc3) 26
    have H8 := H7.step bb
    have G8 := Lib.hid (hg7.below bb (Nat.le_refl _))
    have s8 : w7.heap.size < (w7.alloc (.cells #[.slice ua3 6 l3.cap, .slice na3 6 nc3] 26)).heap.size := by simp
    clear H6 H7 bb hg7 b7 Y6 G6 p0 p1
    have q0 := H8.box.c0
    have q1 := H8.box.c1
    have p0 := Y8.c0
    have p1 := Y8.c1
    have HS1 := Lib.hid mo2_mod
    have HS2 := Lib.hid mo2_bool
    rcases mod_facts m k zz with ⟨f1, f2, f3⟩ | ⟨f1, f2, f3⟩ | ⟨f1, f2⟩
    · have F1 := Lib.hid f1
      have F2 := Lib.hid f2
      have F3 := Lib.hid f3
      rw [f2]
      clear f1 f2 f3
      go_wp2_with fail
      generalize w7.alloc (.cells #[.slice ua3 6 l3.cap, .slice na3 6 nc3] 26) = w8 at Y8 H8 G8 s8 q0 q1 p0 p1 ⊢
      go_at_call 17
      refine (BooleanOk_any (nc := nc) H8.log).mono ?_
      rintro e w9 ⟨rfl, b9⟩
      rw [F1.out]
      have H9 := H8.step b9
      have Y9 := Y8.below b9 (by omega)
      have s9 := Nat.lt_of_lt_of_le s8 b9.size
      have G9 := Lib.hid (G8.out.below b9 (by omega))
      clear H8 Y8 G8 q0 q1 p0 p1 b9 s8
      have q0 := H9.box.c0
      have q1 := H9.box.c1
      have p0 := Y9.c0
      have p1 := Y9.c1
      go_wp2_with fail
      go_at_call 18
      refine (KeepsOk_any (nc := nc) H9.log).mono ?_
      rintro e w10 ⟨rfl, b10⟩
      rw [F3.out]
      have H10 := H9.step b10
      have Y10 := Y9.below b10 (by omega)
      have s10 := Nat.lt_of_lt_of_le s9 b10.size
      have G10 := Lib.hid (G9.out.below b10 (by omega))
      clear H9 Y9 G9 q0 q1 p0 p1 b10 s9
      have q0 := H10.box.c0
      have q1 := H10.box.c1
      have p0 := Y10.c0
      have p1 := Y10.c1
      go_wp2_with fail
      go_at_call 13
      refine (ModularOk_any (nc := nc3) (m := mo2M) G10.out.logAt).mono ?_
      rintro e w11 ⟨rfl, b11⟩
      rw [HS1.out]
      have H11 := H10.step b11
      have Y11 := Y10.below b11 (by omega)
      have s11 := Nat.lt_of_lt_of_le s10 b11.size
      have G11 := Lib.hid (G10.out.below b11 (by omega))
      clear H10 Y10 G10 q0 q1 p0 p1 b11 s10
      have q0 := H11.box.c0
      have q1 := H11.box.c1
      have p0 := Y11.c0
      have p1 := Y11.c1
      go_wp2_with fail
      go_at_call 17
      refine (BooleanOk_any (nc := nc3) (m := mo2M) G11.out.logAt).mono ?_
      rintro e w12 ⟨rfl, b12⟩
      rw [HS2.out]
      have H12 := H11.step b12
      have Y12 := Y11.below b12 (by omega)
      have s12 := Nat.lt_of_lt_of_le s11 b12.size
      have G12 := Lib.hid (G11.out.below b12 (by omega))
      clear H11 Y11 G11 q0 q1 p0 p1 b12 s11
      have q0 := H12.box.c0
      have q1 := H12.box.c1
      have p0 := Y12.c0
      have p1 := Y12.c1
      go_wp2_with fail
      go_ret
      exact ⟨rfl, H12.old⟩
    · have F1 := Lib.hid f1
      have F2 := Lib.hid f2
      have F3 := Lib.hid f3
      rw [f2]
      clear f1 f2 f3
      go_wp2_with fail
      generalize w7.alloc (.cells #[.slice ua3 6 l3.cap, .slice na3 6 nc3] 26) = w8 at Y8 H8 G8 s8 q0 q1 p0 p1 ⊢
      go_at_call 17
      refine (BooleanOk_any (nc := nc) H8.log).mono ?_
      rintro e w9 ⟨rfl, b9⟩
      rw [F1.out]
      have H9 := H8.step b9
      have Y9 := Y8.below b9 (by omega)
      have s9 := Nat.lt_of_lt_of_le s8 b9.size
      have G9 := Lib.hid (G8.out.below b9 (by omega))
      clear H8 Y8 G8 q0 q1 p0 p1 b9 s8
      have q0 := H9.box.c0
      have q1 := H9.box.c1
      have p0 := Y9.c0
      have p1 := Y9.c1
      go_wp2_with fail
      go_at_call 18
      refine (KeepsOk_any (nc := nc) H9.log).mono ?_
      rintro e w10 ⟨rfl, b10⟩
      rw [F3.out]
      have H10 := H9.step b10
      have Y10 := Y9.below b10 (by omega)
      have s10 := Nat.lt_of_lt_of_le s9 b10.size
      have G10 := Lib.hid (G9.out.below b10 (by omega))
      clear H9 Y9 G9 q0 q1 p0 p1 b10 s9
      have q0 := H10.box.c0
      have q1 := H10.box.c1
      have p0 := Y10.c0
      have p1 := Y10.c1
      go_wp2_with fail
      go_at_call 13
      refine (ModularOk_any (nc := nc3) (m := mo2M) G10.out.logAt).mono ?_
      rintro e w11 ⟨rfl, b11⟩
      rw [HS1.out]
      have H11 := H10.step b11
      have Y11 := Y10.below b11 (by omega)
      have s11 := Nat.lt_of_lt_of_le s10 b11.size
      have G11 := Lib.hid (G10.out.below b11 (by omega))
      clear H10 Y10 G10 q0 q1 p0 p1 b11 s10
      have q0 := H11.box.c0
      have q1 := H11.box.c1
      have p0 := Y11.c0
      have p1 := Y11.c1
      go_wp2_with fail
      go_at_call 17
      refine (BooleanOk_any (nc := nc3) (m := mo2M) G11.out.logAt).mono ?_
      rintro e w12 ⟨rfl, b12⟩
      rw [HS2.out]
      have H12 := H11.step b12
      have Y12 := Y11.below b12 (by omega)
      have s12 := Nat.lt_of_lt_of_le s11 b12.size
      have G12 := Lib.hid (G11.out.below b12 (by omega))
      clear H11 Y11 G11 q0 q1 p0 p1 b12 s11
      have q0 := H12.box.c0
      have q1 := H12.box.c1
      have p0 := Y12.c0
      have p1 := Y12.c1
      go_wp2_with fail
      go_ret
      exact ⟨rfl, H12.old⟩
    · have F1 := Lib.hid f1
      have F2 := Lib.hid f2
      rw [f2]
      clear f1 f2
      go_wp2_with fail
      generalize w7.alloc (.cells #[.slice ua3 6 l3.cap, .slice na3 6 nc3] 26) = w8 at Y8 H8 G8 s8 q0 q1 p0 p1 ⊢
      go_at_call 17
      refine (BooleanOk_any (nc := nc) H8.log).mono ?_
      rintro e w9 ⟨rfl, b9⟩
      rw [F1.out]
      have H9 := H8.step b9
      have Y9 := Y8.below b9 (by omega)
      have s9 := Nat.lt_of_lt_of_le s8 b9.size
      have G9 := Lib.hid (G8.out.below b9 (by omega))
      clear H8 Y8 G8 q0 q1 p0 p1 b9 s8
      have q0 := H9.box.c0
      have q1 := H9.box.c1
      have p0 := Y9.c0
      have p1 := Y9.c1
      go_wp2_with fail
      go_at_call 13
      refine (ModularOk_any (nc := nc3) (m := mo2M) G9.out.logAt).mono ?_
      rintro e w10 ⟨rfl, b10⟩
      rw [HS1.out]
      have H10 := H9.step b10
      have Y10 := Y9.below b10 (by omega)
      have s10 := Nat.lt_of_lt_of_le s9 b10.size
      have G10 := Lib.hid (G9.out.below b10 (by omega))
      clear H9 Y9 G9 q0 q1 p0 p1 b10 s9
      have q0 := H10.box.c0
      have q1 := H10.box.c1
      have p0 := Y10.c0
      have p1 := Y10.c1
      go_wp2_with fail
      go_at_call 17
      refine (BooleanOk_any (nc := nc3) (m := mo2M) G10.out.logAt).mono ?_
      rintro e w11 ⟨rfl, b11⟩
      rw [HS2.out]
      have H11 := H10.step b11
      have Y11 := Y10.below b11 (by omega)
      have s11 := Nat.lt_of_lt_of_le s10 b11.size
      have G11 := Lib.hid (G10.out.below b11 (by omega))
      clear H10 Y10 G10 q0 q1 p0 p1 b11 s10
      have q0 := H11.box.c0
      have q1 := H11.box.c1
      have p0 := Y11.c0
      have p1 := Y11.c1
      go_wp2_with fail
      go_ret
      exact ⟨rfl, H11.old⟩
end Go.Proofs.Ytanhogaekdcooaa
