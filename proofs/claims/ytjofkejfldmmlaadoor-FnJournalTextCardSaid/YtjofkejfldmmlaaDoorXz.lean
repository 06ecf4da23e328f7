/- What the rows of stage 11 need: arguments that are deeds, opened; the library's variables, out of the condition that they read as the program lays them. -/
import Derived.Test.YtjofkejfldmmlaaDoorYt
import Derived.Test.YtjofkejfldmmlaaDoorXe
import Derived.Test.YtjofkejfldmmlaaDoorKl
import Derived.Stop.LaidErr
namespace Go.Proofs.YtjofkejfldmmlaaDoor
open Go.ChangeShapes Go.WideShapes Go.ChangeAt Go.RowKit Go.Deep Go.Joins

theorem cellsDeed : Tryd.prog.cellsOf 38 = 3 := by kernel_rfl
set_option maxRecDepth 100000 in
theorem open_deed {H : Type} {enc : TypeId × Value → H} {W : World} {base : Nat} {v : Value} {d : DataW H} {p : List MemPlace}
    (hv : Value.okWide Tryd.prog W .any base 38 v) (h : DataW.Trod enc Tryd.prog W 0 (fun _ => true) true 38 v d p) : ∃ e : Dd, v = deedV e := by
  obtain ⟨v0, v1, v2, y0, y1, y2, n, rfl, rfl, rfl, h0, h1, h2⟩ := open_agg3 Tryd.underlying38 (by kernel_rfl) cellsDeed hv h
  obtain ⟨k, hk, _⟩ := DataW.trod_int Tryd.underlying3 h0
  obtain ⟨a, ha, _⟩ := DataW.trod_int Tryd.underlying3 h1
  obtain ⟨b, hb, _⟩ := DataW.trod_int Tryd.underlying3 h2
  simp only [List.cons.injEq, and_true] at hk ha hb
  subst hk ha hb
  exact ⟨⟨k, a, b⟩, rfl⟩

def laidTabs3 : List (String × DataW Unit) := laidTabs ++ [("internal/strconv.uint64pow10", Rows.laid_internal_strconv_uint64pow10)]
def laidTabs5 : List (String × DataW Unit) := laidTabs3 ++ [("strconv.ErrRange", Rows.laid_strconv_ErrRange), ("strconv.ErrSyntax", Rows.laid_strconv_ErrSyntax)]
theorem door_met3 (os : Os) (args : Array Value) : laidMetH Tryd.prog laidTabs3 ((World.doorLaid Tryd.prog 62 os).forCall (fun _ _ => 0) ⟨#[], args, []⟩).memory :=
  laidMetH_of_parts3 (fuel := 8) (laidMet_of_run' 8 (by kernel_rfl) (by kernel_rfl)) (by kernel_rfl) (by kernel_rfl)
theorem door_met5 (os : Os) (args : Array Value) : laidMetH Tryd.prog laidTabs5 ((World.doorLaid Tryd.prog 62 os).forCall (fun _ _ => 0) ⟨#[], args, []⟩).memory :=
  laidMetH_of_parts3 (fuel := 8) (laidMet_of_run' 8 (by kernel_rfl) (by kernel_rfl)) (by kernel_rfl) (by kernel_rfl)
theorem gRange : Tryd.prog.globalNamed "strconv.ErrRange" = some 3 := by kernel_rfl
theorem gSyntax : Tryd.prog.globalNamed "strconv.ErrSyntax" = some 2 := by kernel_rfl
theorem tRange : (Tryd.prog.globals[3]?).map (·.type) = some 76 := by kernel_rfl
theorem tSyntax : (Tryd.prog.globals[2]?).map (·.type) = some 76 := by kernel_rfl
theorem starErr : "*" ++ "errors.errorString" = "*errors.errorString" := by decide
theorem name_err (u : TypeId) (h : Tryd.prog.typeName? 3 u = some "*errors.errorString") : u = 141 :=
  typeName_ptr_named (nm := "errors.errorString") (by rw [starErr]; kernel_rfl) (by kernel_rfl) (by decide) u (by rw [starErr]; exact h)
theorem tab_of_plain {r : List (String × DataW Unit)} {W : World} (h : laidMet Tryd.prog (("math/bits.deBruijn32tab", Rows.laid_math_bits_deBruijn32tab) :: ("math/bits.deBruijn64tab", Rows.laid_math_bits_deBruijn64tab) :: r) W) : TabOk W := by
  obtain ⟨ps, ⟨g0, t0, cs0, f0, p0, q0, hg0, ht0, hv0, hd0, ⟨g1, t1, cs1, f1, p1, q1, hg1, ht1, hv1, hd1, _, _⟩, _⟩, _, _⟩ := h
  obtain rfl := Option.some.inj (gTab.symm.trans hg1)
  obtain rfl := Option.some.inj (tTab.symm.trans ht1)
  rw [tab_is] at hd1
  have hc := Lib.cells_of_tab Tryd.underlying139 Tryd.underlying5 cByte cTab hd1
  intro j hj
  have h1 := World.var?_cell hg1 hv1 j
  have hl : j < Lib.deBruijn64tab.length := hj
  rw [h1]
  have h2 : cs1[j]? = some (.int .u8 ((Lib.deBruijn64tab.getD j 0 : Nat) : Int)) := by
    have h3 : cs1.toList[j]? = some (.int .u8 ((Lib.deBruijn64tab.getD j 0 : Nat) : Int)) := by
      rw [hc]
      simp [List.getD, hl]
    simpa using h3
  exact h2
/-- What the walks ask of the library's variables. -/
structure LibOk (W : World) : Prop where
  t : TabOk W
  e : ErrOk W
theorem tab_of_laid3 {W : World} (h : laidMetH Tryd.prog laidTabs3 W) : TabOk W := by
  rw [MakeChecks.laidMetH_plain _ _ _ (by kernel_rfl)] at h
  exact tab_of_plain h
theorem facts_of_laid5 {W : World} (h : laidMetH Tryd.prog laidTabs5 W) : LibOk W := by
  rw [MakeChecks.laidMetH_plain _ _ _ (by kernel_rfl)] at h
  refine ⟨tab_of_plain h, ?_⟩
  have h2 : laidMet Tryd.prog [("strconv.ErrRange", Rows.laid_strconv_ErrRange), ("strconv.ErrSyntax", Rows.laid_strconv_ErrSyntax)] W := laidMet.tail (laidMet.tail (laidMet.tail h))
  obtain ⟨a1, s1, hv1, _⟩ := laid_sentinel h2 gRange tRange Tryd.underlying76 name_err Tryd.underlying141 Tryd.underlying143 rfl rfl Tryd.underlying9 (by kernel_rfl) (by kernel_rfl)
  obtain ⟨a2, s2, hv2, _⟩ := laid_sentinel (laidMet.tail h2) gSyntax tSyntax Tryd.underlying76 name_err Tryd.underlying141 Tryd.underlying143 rfl rfl Tryd.underlying9 (by kernel_rfl) (by kernel_rfl)
  exact ⟨⟨_, _, by have := World.var?_cell gSyntax hv2 0; simpa using this⟩, ⟨_, _, by have := World.var?_cell gRange hv1 0; simpa using this⟩⟩
end Go.Proofs.YtjofkejfldmmlaaDoor
