/- strconv.Itoa, strconv.Atoi and strings.Cut of the library lie in the program: what they answer. -/
import Derived.Test.YtjofkejfldmmlaaDoorWa
import Derived.Test.YtjofkejfldmmlaaDoorBt
import Derived.Test.YtjofkejfldmmlaaDoorMathZ
import Derived.Handy
import Derived.Shelf.Strings.Search2
import Derived.Shelf.Strconv.Itoa3
import Derived.Shelf.Strconv.ErrVarAll
namespace Go.Proofs.YtjofkejfldmmlaaDoor
open Go.RowKit Go.Deep Go.Shelf Go.Lib

def laysIt_ren : Go.Shelf.Ren := ⟨fun | 129 => 83 | 171 => 34 | 243 => 54 | 246 => 67 | 283 => 74 | 284 => 75 | 285 => 76 | 286 => 77 | 317 => 82 | 318 => 84 | 319 => 85 | 320 => 86 | 337 => 95 | 338 => 96 | n => n, fun | 0 => 0 | 2 => 2 | 3 => 3 | 4 => 4 | 5 => 5 | 9 => 9 | 20 => 20 | 37 => 22 | 46 => 121 | 51 => 119 | 53 => 110 | 171 => 109 | 173 => 113 | 212 => 118 | 213 => 120 | 232 => 138 | 233 => 139 | n => n, fun | 17 => 0 | 18 => 4 | 19 => 5 | n => n⟩
theorem laysIt : Lays.n171 Tryd.prog laysIt_ren :=
  { mixed := by kernel_rfl
    f129 := Tryd.func83.trans (congrArg some (by kernel_rfl))
    f171 := Tryd.func34.trans (congrArg some (by kernel_rfl))
    f243 := Tryd.func54.trans (congrArg some (by kernel_rfl))
    f246 := Tryd.func67.trans (congrArg some (by kernel_rfl))
    f283 := Tryd.func74.trans (congrArg some (by kernel_rfl))
    f284 := Tryd.func75.trans (congrArg some (by kernel_rfl))
    f285 := Tryd.func76.trans (congrArg some (by kernel_rfl))
    f286 := Tryd.func77.trans (congrArg some (by kernel_rfl))
    f317 := Tryd.func82.trans (congrArg some (by kernel_rfl))
    f318 := Tryd.func84.trans (congrArg some (by kernel_rfl))
    f319 := Tryd.func85.trans (congrArg some (by kernel_rfl))
    f320 := Tryd.func86.trans (congrArg some (by kernel_rfl))
    f337 := Tryd.func95.trans (congrArg some (by kernel_rfl))
    f338 := Tryd.func96.trans (congrArg some (by kernel_rfl))
    t0 := Tryd.underlying0
    a0 := Tryd.isAgg0
    z0 := Tryd.sizeOf0
    v0 := Tryd.zeroValue0
    t2 := Tryd.underlying2
    a2 := Tryd.isAgg2
    z2 := Tryd.sizeOf2
    v2 := Tryd.zeroValue2
    t3 := Tryd.underlying3
    a3 := Tryd.isAgg3
    z3 := Tryd.sizeOf3
    v3 := Tryd.zeroValue3
    t4 := Tryd.underlying4
    a4 := Tryd.isAgg4
    z4 := Tryd.sizeOf4
    v4 := Tryd.zeroValue4
    t5 := Tryd.underlying5
    a5 := Tryd.isAgg5
    z5 := Tryd.sizeOf5
    v5 := Tryd.zeroValue5
    t9 := Tryd.underlying9
    a9 := Tryd.isAgg9
    z9 := Tryd.sizeOf9
    v9 := Tryd.zeroValue9
    t20 := Tryd.underlying20
    a20 := Tryd.isAgg20
    z20 := Tryd.sizeOf20
    v20 := Tryd.zeroValue20
    t37 := Tryd.underlying22
    a37 := Tryd.isAgg22
    z37 := Tryd.sizeOf22
    v37 := Tryd.zeroValue22
    t46 := Tryd.underlying121
    a46 := Tryd.isAgg121
    z46 := Tryd.sizeOf121
    v46 := Tryd.zeroValue121
    t51 := Tryd.underlying119
    a51 := Tryd.isAgg119
    z51 := Tryd.sizeOf119
    v51 := Tryd.zeroValue119
    t53 := Tryd.underlying110
    a53 := Tryd.isAgg110
    z53 := Tryd.sizeOf110
    v53 := Tryd.zeroValue110
    t171 := Tryd.underlying109
    a171 := Tryd.isAgg109
    z171 := Tryd.sizeOf109
    v171 := Tryd.zeroValue109
    t173 := Tryd.underlying113
    a173 := Tryd.isAgg113
    z173 := Tryd.sizeOf113
    v173 := Tryd.zeroValue113
    t212 := Tryd.underlying118
    a212 := Tryd.isAgg118
    z212 := Tryd.sizeOf118
    v212 := Tryd.zeroValue118
    t213 := Tryd.underlying120
    a213 := Tryd.isAgg120
    z213 := Tryd.sizeOf120
    t232 := Tryd.underlying138
    a232 := Tryd.isAgg138
    z232 := Tryd.sizeOf138
    v232 := Tryd.zeroValue138
    t233 := Tryd.underlying139
    a233 := Tryd.isAgg139
    z233 := Tryd.sizeOf139
    v233 := Tryd.zeroValue139
    g17 := by kernel_rfl
    g18 := by kernel_rfl
    g19 := by kernel_rfl }
def laysAt_ren : Go.Shelf.Ren := ⟨fun | 129 => 83 | 171 => 34 | 172 => 70 | 205 => 100 | 243 => 54 | 244 => 79 | 245 => 80 | 246 => 67 | 247 => 90 | 279 => 91 | 280 => 92 | 281 => 93 | 282 => 94 | 283 => 74 | 284 => 75 | 285 => 76 | 286 => 77 | 287 => 98 | 316 => 99 | 317 => 82 | 318 => 84 | 319 => 85 | 320 => 86 | 321 => 101 | 322 => 102 | 337 => 95 | 338 => 96 | n => n, fun | 0 => 0 | 2 => 2 | 3 => 3 | 4 => 4 | 5 => 5 | 9 => 9 | 20 => 20 | 21 => 21 | 37 => 22 | 46 => 121 | 51 => 119 | 53 => 110 | 75 => 76 | 76 => 77 | 80 => 79 | 85 => 124 | 127 => 102 | 143 => 141 | 145 => 143 | 167 => 123 | 168 => 126 | 171 => 109 | 173 => 113 | 175 => 132 | 210 => 136 | 212 => 118 | 213 => 120 | 232 => 138 | 233 => 139 | n => n, fun | 15 => 2 | 16 => 3 | 17 => 0 | 18 => 4 | 19 => 5 | n => n⟩
theorem laysAt : LaysC.n172 Tryd.prog laysAt_ren :=
  { mixed := by kernel_rfl
    f129 := Tryd.func83.trans (congrArg some (by kernel_rfl))
    f171 := Tryd.func34.trans (congrArg some (by kernel_rfl))
    f172 := Tryd.func70.trans (congrArg some (by kernel_rfl))
    f205 := Tryd.func100.trans (congrArg some (by kernel_rfl))
    f243 := Tryd.func54.trans (congrArg some (by kernel_rfl))
    f244 := Tryd.func79.trans (congrArg some (by kernel_rfl))
    f245 := Tryd.func80.trans (congrArg some (by kernel_rfl))
    f246 := Tryd.func67.trans (congrArg some (by kernel_rfl))
    f247 := Tryd.func90.trans (congrArg some (by kernel_rfl))
    f279 := Tryd.func91.trans (congrArg some (by kernel_rfl))
    f280 := Tryd.func92.trans (congrArg some (by kernel_rfl))
    f281 := Tryd.func93.trans (congrArg some (by kernel_rfl))
    f282 := Tryd.func94.trans (congrArg some (by kernel_rfl))
    f283 := Tryd.func74.trans (congrArg some (by kernel_rfl))
    f284 := Tryd.func75.trans (congrArg some (by kernel_rfl))
    f285 := Tryd.func76.trans (congrArg some (by kernel_rfl))
    f286 := Tryd.func77.trans (congrArg some (by kernel_rfl))
    f287 := Tryd.func98.trans (congrArg some (by kernel_rfl))
    f316 := Tryd.func99.trans (congrArg some (by kernel_rfl))
    f317 := Tryd.func82.trans (congrArg some (by kernel_rfl))
    f318 := Tryd.func84.trans (congrArg some (by kernel_rfl))
    f319 := Tryd.func85.trans (congrArg some (by kernel_rfl))
    f320 := Tryd.func86.trans (congrArg some (by kernel_rfl))
    f321 := Tryd.func101.trans (congrArg some (by kernel_rfl))
    f322 := Tryd.func102.trans (congrArg some (by kernel_rfl))
    f337 := Tryd.func95.trans (congrArg some (by kernel_rfl))
    f338 := Tryd.func96.trans (congrArg some (by kernel_rfl))
    t0 := Tryd.underlying0
    a0 := Tryd.isAgg0
    z0 := Tryd.sizeOf0
    v0 := Tryd.zeroValue0
    t2 := Tryd.underlying2
    a2 := Tryd.isAgg2
    z2 := Tryd.sizeOf2
    v2 := Tryd.zeroValue2
    t3 := Tryd.underlying3
    a3 := Tryd.isAgg3
    z3 := Tryd.sizeOf3
    v3 := Tryd.zeroValue3
    t4 := Tryd.underlying4
    a4 := Tryd.isAgg4
    z4 := Tryd.sizeOf4
    v4 := Tryd.zeroValue4
    t5 := Tryd.underlying5
    a5 := Tryd.isAgg5
    z5 := Tryd.sizeOf5
    v5 := Tryd.zeroValue5
    t9 := Tryd.underlying9
    a9 := Tryd.isAgg9
    z9 := Tryd.sizeOf9
    v9 := Tryd.zeroValue9
    t20 := Tryd.underlying20
    a20 := Tryd.isAgg20
    z20 := Tryd.sizeOf20
    v20 := Tryd.zeroValue20
    t21 := Tryd.underlying21
    a21 := Tryd.isAgg21
    z21 := Tryd.sizeOf21
    v21 := Tryd.zeroValue21
    t37 := Tryd.underlying22
    a37 := Tryd.isAgg22
    z37 := Tryd.sizeOf22
    v37 := Tryd.zeroValue22
    t46 := Tryd.underlying121
    a46 := Tryd.isAgg121
    z46 := Tryd.sizeOf121
    v46 := Tryd.zeroValue121
    t51 := Tryd.underlying119
    a51 := Tryd.isAgg119
    z51 := Tryd.sizeOf119
    v51 := Tryd.zeroValue119
    t53 := Tryd.underlying110
    a53 := Tryd.isAgg110
    z53 := Tryd.sizeOf110
    v53 := Tryd.zeroValue110
    t75 := Tryd.underlying76
    a75 := Tryd.isAgg76
    z75 := Tryd.sizeOf76
    v75 := Tryd.zeroValue76
    t76 := Tryd.underlying77
    a76 := Tryd.isAgg77
    z76 := Tryd.sizeOf77
    v76 := Tryd.zeroValue77
    t85 := Tryd.underlying124
    a85 := Tryd.isAgg124
    z85 := Tryd.sizeOf124
    v85 := Tryd.zeroValue124
    t127 := Tryd.underlying102
    a127 := Tryd.isAgg102
    z127 := Tryd.sizeOf102
    v127 := Tryd.zeroValue102
    t143 := Tryd.underlying141
    a143 := Tryd.isAgg141
    z143 := Tryd.sizeOf141
    v143 := Tryd.zeroValue141
    t145 := Tryd.underlying143
    a145 := Tryd.isAgg143
    z145 := Tryd.sizeOf143
    v145 := Tryd.zeroValue143
    t167 := Tryd.underlying123
    a167 := Tryd.isAgg123
    z167 := Tryd.sizeOf123
    v167 := Tryd.zeroValue123
    t168 := Tryd.underlying126
    a168 := Tryd.isAgg126
    z168 := Tryd.sizeOf126
    v168 := Tryd.zeroValue126
    t171 := Tryd.underlying109
    a171 := Tryd.isAgg109
    z171 := Tryd.sizeOf109
    v171 := Tryd.zeroValue109
    t173 := Tryd.underlying113
    a173 := Tryd.isAgg113
    z173 := Tryd.sizeOf113
    v173 := Tryd.zeroValue113
    t175 := Tryd.underlying132
    a175 := Tryd.isAgg132
    z175 := Tryd.sizeOf132
    v175 := Tryd.zeroValue132
    t210 := Tryd.underlying136
    a210 := Tryd.isAgg136
    z210 := Tryd.sizeOf136
    v210 := Tryd.zeroValue136
    t212 := Tryd.underlying118
    a212 := Tryd.isAgg118
    z212 := Tryd.sizeOf118
    v212 := Tryd.zeroValue118
    t213 := Tryd.underlying120
    a213 := Tryd.isAgg120
    z213 := Tryd.sizeOf120
    t232 := Tryd.underlying138
    a232 := Tryd.isAgg138
    z232 := Tryd.sizeOf138
    v232 := Tryd.zeroValue138
    t233 := Tryd.underlying139
    a233 := Tryd.isAgg139
    z233 := Tryd.sizeOf139
    v233 := Tryd.zeroValue139
    g15 := by kernel_rfl
    g16 := by kernel_rfl
    g17 := by kernel_rfl
    g18 := by kernel_rfl
    g19 := by kernel_rfl
    t80 := Tryd.underlying79
    a80 := Tryd.isAgg79
    z80 := Tryd.sizeOf79
    v80 := Tryd.zeroValue79
    i0 := by kernel_rfl
    i2 := by kernel_rfl
    i3 := by kernel_rfl
    i4 := by kernel_rfl
    i5 := by kernel_rfl
    i9 := by kernel_rfl
    i20 := by kernel_rfl
    i21 := by kernel_rfl
    i37 := by kernel_rfl
    i46 := by kernel_rfl
    i51 := by kernel_rfl
    i53 := by kernel_rfl
    i75 := by kernel_rfl
    i76 := by kernel_rfl
    i80 := by kernel_rfl
    i85 := by kernel_rfl
    i127 := by kernel_rfl
    i143 := by kernel_rfl
    i145 := by kernel_rfl
    i167 := by kernel_rfl
    i168 := by kernel_rfl
    i171 := by kernel_rfl
    i173 := by kernel_rfl
    i175 := by kernel_rfl
    i210 := by kernel_rfl
    i212 := by kernel_rfl
    i232 := by kernel_rfl
    i233 := by kernel_rfl
    m15 := by kernel_rfl
    m16 := by kernel_rfl
    m17 := by kernel_rfl
    m18 := by kernel_rfl
    m19 := by kernel_rfl
    c0 := by kernel_rfl
    c2 := by kernel_rfl
    c3 := by kernel_rfl
    c4 := by kernel_rfl
    c5 := by kernel_rfl
    c9 := by kernel_rfl
    c20 := by kernel_rfl
    c21 := by kernel_rfl
    c37 := by kernel_rfl
    c46 := by kernel_rfl
    c51 := by kernel_rfl
    c53 := by kernel_rfl
    c75 := by kernel_rfl
    c76 := by kernel_rfl
    c80 := by kernel_rfl
    c85 := by kernel_rfl
    c127 := by kernel_rfl
    c143 := by kernel_rfl
    c145 := by kernel_rfl
    c167 := by kernel_rfl
    c168 := by kernel_rfl
    c171 := by kernel_rfl
    c173 := by kernel_rfl
    c175 := by kernel_rfl
    c210 := by kernel_rfl
    c212 := by kernel_rfl
    c213 := by kernel_rfl
    c232 := by kernel_rfl
    c233 := by kernel_rfl }
def laysIx_ren : Go.Shelf.Ren := ⟨fun | 217 => 72 | 219 => 78 | 224 => 88 | 225 => 87 | 266 => 81 | 267 => 89 | 314 => 97 | n => n, fun | 3 => 3 | 4 => 4 | 5 => 5 | 9 => 9 | 46 => 121 | 51 => 119 | 146 => 130 | n => n, fun | 1 => 1 | n => n⟩
theorem laysIx : Lays.n219 Tryd.prog laysIx_ren :=
  { mixed := by kernel_rfl
    f217 := Tryd.func72.trans (congrArg some (by kernel_rfl))
    f219 := Tryd.func78.trans (congrArg some (by kernel_rfl))
    f224 := Tryd.func88.trans (congrArg some (by kernel_rfl))
    f225 := Tryd.func87.trans (congrArg some (by kernel_rfl))
    f266 := Tryd.func81.trans (congrArg some (by kernel_rfl))
    f267 := Tryd.func89.trans (congrArg some (by kernel_rfl))
    f314 := Tryd.func97.trans (congrArg some (by kernel_rfl))
    t3 := Tryd.underlying3
    a3 := Tryd.isAgg3
    z3 := Tryd.sizeOf3
    v3 := Tryd.zeroValue3
    t4 := Tryd.underlying4
    a4 := Tryd.isAgg4
    z4 := Tryd.sizeOf4
    v4 := Tryd.zeroValue4
    t5 := Tryd.underlying5
    a5 := Tryd.isAgg5
    z5 := Tryd.sizeOf5
    v5 := Tryd.zeroValue5
    t9 := Tryd.underlying9
    a9 := Tryd.isAgg9
    z9 := Tryd.sizeOf9
    v9 := Tryd.zeroValue9
    t46 := Tryd.underlying121
    a46 := Tryd.isAgg121
    z46 := Tryd.sizeOf121
    v46 := Tryd.zeroValue121
    t51 := Tryd.underlying119
    a51 := Tryd.isAgg119
    z51 := Tryd.sizeOf119
    v51 := Tryd.zeroValue119
    t146 := Tryd.underlying130
    a146 := Tryd.isAgg130
    z146 := Tryd.sizeOf130
    v146 := Tryd.zeroValue130
    g1 := by kernel_rfl }

/-- The two variables of the library that hold its errors hold some. -/
structure ErrOk (w : World) : Prop where
  s : ∃ t v, w.cell? ⟨2, 0, none⟩ = some (.iface t v)
  r : ∃ t v, w.cell? ⟨3, 0, none⟩ = some (.iface t v)
theorem ErrOk.size {w : World} (h : ErrOk w) : 2 < w.heap.size ∧ 3 < w.heap.size := by
  obtain ⟨⟨t, v, h1⟩, ⟨t', v', h2⟩⟩ := h
  exact ⟨World.block_lt_of_cell? _ _ h1, World.block_lt_of_cell? _ _ h2⟩
theorem ErrOk.step {w w' : World} {B : Nat} (h : ErrOk w) (hb : Below B w w') (hB : 2 < B) (hB2 : 3 < B) : ErrOk w' := by
  obtain ⟨⟨t, v, h1⟩, ⟨t', v', h2⟩⟩ := h
  exact ⟨⟨t, v, by rw [hb.cell (p := ⟨2, 0, none⟩) hB]; exact h1⟩, ⟨t', v', by rw [hb.cell (p := ⟨3, 0, none⟩) hB2]; exact h2⟩⟩
theorem ErrOk.below {w w' : World} (h : ErrOk w) (hb : Below w.heap.size w w') : ErrOk w' := h.step hb h.size.1 h.size.2

theorem itoa_small (n : Nat) (hn : n ≤ 99) (w : World) : Calls Tryd.prog 34 #[.int .i64 n] w fun e w' => e = .returned (.string ⟨(numL n).toArray⟩) ∧ w' = w := by
  have h := Any.strconv_Itoa_small laysIt n (by omega) w
  rw [dec_num] at h
  exact h
/-- What Atoi answers: a number, or an error. -/
theorem atoi_any (s : ByteArray) (hs : s.size ≤ 281474976710656) {w : World} (hE : ErrOk w) :
    Calls Tryd.prog 70 #[.string s] w fun e w' => Below w.heap.size w w' ∧ ∃ n v, e = .returned (.tuple #[.int .i64 n, v]) ∧
      ((Lib.atoiAll s.data.toList = .ok n ∧ v = .nilIface) ∨ ((∀ m, Lib.atoiAll s.data.toList ≠ .ok m) ∧ ∃ t p, v = .iface t p)) := by
  obtain ⟨⟨t, v, h1⟩, ⟨t', v', h2⟩⟩ := hE
  rcases h : Lib.atoiAll s.data.toList with n | _ | _
  · refine (Any.strconv_Atoi_ok laysAt s (by omega) n h w).mono ?_
    rintro e w' ⟨rfl, hw⟩
    refine ⟨?_, n, .nilIface, rfl, .inl ⟨rfl, rfl⟩⟩
    rcases hw with rfl | ⟨t, rfl⟩
    · exact Below.refl _ _
    · exact Lib.bytesWorld_below _ _ _
  · refine (Any.strconv_Atoi_syntax laysAt s hs h (.iface t v) w h1 (.inr ⟨t, v, rfl⟩)).mono ?_
    rintro e w' ⟨N, rfl, _, _, hb⟩
    exact ⟨hb, _, _, rfl, .inr ⟨fun m => (fun e => by cases e), _, _, rfl⟩⟩
  · refine (Any.strconv_Atoi_range laysAt s hs h (.iface t' v') w h2 (.inr ⟨t', v', rfl⟩)).mono ?_
    rintro e w' ⟨N, rfl, _, _, hb⟩
    exact ⟨hb, _, _, rfl, .inr ⟨fun m => (fun e => by cases e), _, _, rfl⟩⟩

/-- A text as a value. -/
def strV (l : List UInt8) : Value := .string ⟨l.toArray⟩
/-- What Cut answers: whole, or in two parts. -/
def CutOf (s : ByteArray) (w : World) (e : Ending) (w' : World) : Prop :=
  Below w.heap.size w w' ∧ ∃ (a b : ByteArray) (f : Bool), e = .returned (.tuple #[.string a, .string b, .bool f]) ∧ a.size ≤ s.size ∧ b.size ≤ s.size ∧
    match f with
    | true => s.data.toList = a.data.toList ++ 32 :: b.data.toList ∧ (32 : UInt8) ∉ a.data.toList
    | false => a.data.toList = s.data.toList ∧ (32 : UInt8) ∉ s.data.toList
set_option maxRecDepth 100000 in
set_option maxHeartbeats 1000000 in
theorem cutLite (s : ByteArray) (hs : s.size ≤ 4611686018427387904) (w : World) : Calls Tryd.prog 69 #[.string s, .string ⟨#[32]⟩] w (CutOf s w) := by
  go_enter Tryd.func69, Tryd.ntmps69
  go_wp2_with fail
  go_at_call 78
  refine (Any.stringslite_Index_one laysIx s 32 w).mono ?_
  rintro e w' ⟨rfl, rfl⟩
  rcases byte_cases s.data.toList 32 with ⟨h1, h2⟩ | ⟨l, r, h1, h2, h3⟩
  · rw [h2]
    go_wp2_with fail
    go_returns
    exact ⟨Below.refl _ _, s, ⟨#[]⟩, false, rfl, Nat.le_refl _, Nat.zero_le _, rfl, h1⟩
  · rw [h3]
    have hsz : s.size = l.length + (r.length + 1) := by rw [size_data, h1, List.length_append, List.length_cons]
    have ea : (s.extract 0 l.length).data.toList = l := by rw [ext_data, h1]; simp
    have eb : (s.extract (l.length + 1) s.size).data.toList = r := by rw [ext_end, h1]; simp
    have H1 := Lib.hid h1
    have HS := Lib.hid hsz
    have hl : l.length + 1 ≤ s.size := by omega
    clear h1 h3 hsz
    generalize l.length = n at hl ea eb HS ⊢
    have c1 : (0 : Int) ≤ (n : Int) := by omega
    have c2 : ((n : Int) + 1) ≤ (s.size : Int) := by omega
    have c3 : (n : Int) ≤ (s.size : Int) := by omega
    have hw : IntKind.i64.wrap ((n : Int) + 1) = (n : Int) + 1 := by rw [IntKind.wrap_i64]; omega
    go_wp2_with fail
    go_quiet (fail)
    go_wp2_with fail
    go_returns
    refine ⟨?_, s.extract 0 n, s.extract (n + 1) s.size, true, rfl, ?_, ?_, by rw [ea, eb]; exact H1.out, by rw [ea]; exact h2⟩
    · exact Below.drewN' (Below.refl _ _) _
    · rw [ByteArray.size_extract]; omega
    · rw [ByteArray.size_extract]; omega
set_option maxRecDepth 100000 in
theorem cut_any (s : ByteArray) (hs : s.size ≤ 4611686018427387904) (w : World) : Calls Tryd.prog 59 #[.string s, .string ⟨#[32]⟩] w (CutOf s w) := by
  go_enter Tryd.func59, Tryd.ntmps59
  go_wp2_with fail
  go_at_call 69
  refine (cutLite s hs w).mono ?_
  rintro e w' ⟨hb, a, b, f, rfl, h1, h2, h3⟩
  have H := Lib.hid h3
  clear h3
  go_wp2_with fail
  go_returns
  exact ⟨hb, a, b, f, rfl, h1, h2, H.out⟩
end Go.Proofs.YtjofkejfldmmlaaDoor
