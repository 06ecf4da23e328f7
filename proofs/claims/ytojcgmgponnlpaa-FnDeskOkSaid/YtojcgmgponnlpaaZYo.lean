import Derived.Test.YtojcgmgponnlpaaZVe
import Derived.Test.YtojcgmgponnlpaaZMath
import Derived.Test.YtojcgmgponnlpaaZYi
import Derived.Test.YtojcgmgponnlpaaZGa
namespace Go.Proofs.Ytojcgmgponnlpaa
open Go.RowKit Go.Deep

def placeV (n : Nat) (z : Nat → Int) (a : Nat) : Nat := (firstI n (fun c => (a : Int) == z c)).toNat
structure Each (n : Nat) (z : Nat → Int) : Prop where
  perm : Perm n (fun c => (z c).toNat) (placeV n z)
  nat : ∀ c, c < n → z c = ((z c).toNat : Int)
  at_ : ∀ a, a < n → firstI n (fun c => (a : Int) == z c) = (placeV n z a : Int)
end Go.Proofs.Ytojcgmgponnlpaa
namespace Go.Proofs.Ytojcgmgponnlpaa
open Go.RowKit Go.Deep

/-- A logic, or none. -/
def MadeLog (w : World) (N : Nat) (Z : Nat → Nat → Int) (y : Nat → Nat) (ok : Bool) (e : Ending) (w' : World) : Prop :=
  Below w.heap.size w w' ∧ ((ok = false ∧ e = .returned noLog) ∨ (ok = true ∧ ∃ u t rv, e = .returned (.agg #[u, t]) ∧ LogO w' w.heap.size u t N rv Z (fun c => (y c : Int))))
theorem madeLog_no {w W : World} {ok : Bool} {p N : Nat} {Z : Nat → Nat → Int} {y : Nat → Nat} {x x' : Value} (hp : w.heap.size ≤ p) (hB : Below w.heap.size w W) (hok : ok = false) : MadeLog w N Z y ok (.returned noLog) ((W.setCell ⟨p, 0, none⟩ x).setCell ⟨p, 1, none⟩ x') :=
  ⟨hB.trans ((set2_only W p x x').below fun j hj => by have hj' : j = p := hj; omega), .inl ⟨hok, rfl⟩⟩
theorem MadeLog.congr {w w' : World} {e : Ending} {N : Nat} {Z Z' : Nat → Nat → Int} {y y' : Nat → Nat} {ok ok' : Bool} (h : MadeLog w N Z y ok e w') (ho : ok = ok') (hZ : ok = true → ∀ r, r < N → ∀ c, c < N → Z r c = Z' r c) (hy : ok = true → ∀ c, c < N → y c = y' c) : MadeLog w N Z' y' ok' e w' := by
  subst ho
  refine ⟨h.1, ?_⟩
  rcases h.2 with h2 | ⟨hok, u, t, rv, rfl, hL⟩
  · exact .inl h2
  · exact .inr ⟨hok, u, t, rv, rfl, hL.congrZ (hZ hok) fun c hc => by rw [hy hok c hc]⟩
end Go.Proofs.Ytojcgmgponnlpaa
namespace Go.Proofs.Ytojcgmgponnlpaa
open Go.RowKit Go.Deep

theorem part_lt {m : Mx} {z : Nat → Int} {y : Nat → Nat} {o s K : Nat} {q b : Nat → Nat} (hE : Emb m.n K s q b) (hc : Closed m y s) (hO : Ortho m z y o) (a : Nat) (ha : a < K) : partY y q b a < K :=
  hE.blt _ (hO.lt _ (hE.lt a ha)) (hc.not _ (hE.lt a ha) (hE.has a ha))
end Go.Proofs.Ytojcgmgponnlpaa
namespace Go.Proofs.Ytojcgmgponnlpaa
open Go.RowKit Go.Deep

theorem mems_pre {s j : Nat} (n : Nat) (h : j ≤ n) : ∃ r, memsTo s n = memsTo s j ++ r := by
  induction n with
  | zero =>
    obtain rfl : j = 0 := by omega
    exact ⟨[], rfl⟩
  | succ n ih =>
    by_cases e : j = n + 1
    · subst e; exact ⟨[], (List.append_nil _).symm⟩
    · obtain ⟨r, hr⟩ := ih (by omega)
      cases hb : s.testBit n with
      | false => exact ⟨r, by rw [memsTo_no hb, hr]⟩
      | true => exact ⟨r ++ [n], by rw [memsTo_yes hb, hr, List.append_assoc]⟩
theorem mems_at {s j : Nat} (hj : j < 12) (hb : s.testBit j = true) : memF s 12 (memsTo s j).length = j := by
  obtain ⟨r, hr⟩ := mems_pre (s := s) (j := j + 1) 12 hj
  unfold memF
  rw [hr, memsTo_yes hb, List.append_assoc, List.getElem?_append_right (Nat.le_refl _), Nat.sub_self]
  rfl
theorem mems_stop {s n : Nat} (hn : n ≤ 12) (hs : s < 2 ^ n) : memK s 12 = (memsTo s n).length := by
  have key : ∀ d, memsTo s (n + d) = memsTo s n := fun d => by
    induction d with
    | zero => rfl
    | succ d ih =>
      rw [← Nat.add_assoc, memsTo_no (by
        cases hb : s.testBit (n + d) with
        | false => rfl
        | true => have := bit_lt hs hb; omega), ih]
  have := key (12 - n)
  rw [show n + (12 - n) = 12 by omega] at this
  unfold memK
  rw [this]
theorem part_opp {m : Mx} {z : Nat → Int} {y : Nat → Nat} {o s K : Nat} {q b : Nat → Nat} (hE : Emb m.n K s q b) (hc : Closed m y s) (hO : Ortho m z y o) {k : Nat} (hk : k < K) : partY y q b k < K ∧ ∀ j, j < K → (y (q k) = q j ↔ partY y q b k = j) := by
  have hq := hE.lt k hk
  have hy := hc.not _ hq (hE.has k hk)
  refine ⟨part_lt hE hc hO k hk, fun j hj => ⟨fun e => ?_, fun e => ?_⟩⟩
  · unfold partY; rw [e, hE.bq j hj]
  · rw [← e]; unfold partY; rw [hE.qb _ (hO.lt _ hq) hy]

/-- A logic under way, and a row of it under way beside. -/
structure RowIn (wi : World) (p base : Nat) (u t v : Value) (k kt N : Nat) (rv : Nat → Value) (Z : Nat → Nat → Int) (y : Nat → Int) (j : Nat) (z : Nat → Int) : Prop where
  made : MakeAt wi p base u t k kt N rv Z y
  row : IntsAt wi base v j z
  sepT : ∀ g, v.ownBlock = some g → t.ownBlock ≠ some g
  sepR : ∀ r, r < k → ∀ g, v.ownBlock = some g → (rv r).ownBlock ≠ some g
theorem RowIn.start {wo : World} {p base : Nat} {u t : Value} {k kt N : Nat} {rv : Nat → Value} {Z : Nat → Nat → Int} {y z : Nat → Int} (h : MakeAt wo p base u t k kt N rv Z y) (hb : base ≤ wo.heap.size) :
    RowIn (wo.alloc (.cells #[] 3)) p base u t (.slice (some ⟨wo.heap.size, 0, none⟩) 0 0) k kt N rv Z y 0 z := by
  have hrow0 : IntsAt (wo.alloc (.cells #[] 3)) wo.heap.size (.slice (some ⟨wo.heap.size, 0, none⟩) 0 0) 0 z := World.ownsRow_lit (base := wo.heap.size) (e := 3) (size := 1) wo #[] 0 (Nat.le_refl _) (Nat.zero_le _) rfl
  refine ⟨h.below ((Below.refl wo.heap.size wo).alloc (Nat.le_refl _) _), ownsRow_base hrow0 hb, fun g hg e => ?_, fun r hr g hg e => ?_⟩
  · have e' : wo.heap.size = g := by simpa [Value.ownBlock] using hg
    have := own_lt h.ints g e
    omega
  · have e' : wo.heap.size = g := by simpa [Value.ownBlock] using hg
    have := own_lt (h.out.row r hr) g e
    omega
theorem RowIn.still {wi wa : World} {p base : Nat} {u t v : Value} {k kt N j : Nat} {rv : Nat → Value} {Z : Nat → Nat → Int} {y z : Nat → Int} (h : RowIn wi p base u t v k kt N rv Z y j z) (ha : Chg (fun _ => False) wi wa) : RowIn wa p base u t v k kt N rv Z y j z :=
  ⟨h.made.chg ha fun _ e => e.elim, ha.ints h.row fun _ _ e => e, h.sepT, h.sepR⟩
theorem apart_of {v t : Value} (h : ∀ g, v.ownBlock = some g → t.ownBlock ≠ some g) : t.ownBlock = none ∨ t.ownBlock ≠ v.ownBlock := by
  cases e : t.ownBlock with
  | none => exact .inl rfl
  | some g => exact .inr fun e2 => h g e2.symm e
theorem apart_of' {v t : Value} (h : ∀ g, v.ownBlock = some g → t.ownBlock ≠ some g) : v.ownBlock = none ∨ v.ownBlock ≠ t.ownBlock := by
  cases e : v.ownBlock with
  | none => exact .inl rfl
  | some g => exact .inr fun e2 => h g e e2.symm
theorem RowIn.append {wi wa w4 : World} {p base : Nat} {u t v v' : Value} {k kt N j : Nat} {rv : Nat → Value} {Z : Nat → Nat → Int} {y z : Nat → Int} (h : RowIn wi p base u t v k kt N rv Z y j z) (ha : Chg (fun _ => False) wi wa)
    (hown : w4.ownsRow base 3 1 v' (j + 1) ((List.range j).map (fun c => .int .i64 (z c)) ++ [.int .i64 (z j)])) (hg : wa.grownBy w4 v.ownBlock) (hat : v'.ownBlock = v.ownBlock ∨ v'.ownBlock = some wa.heap.size) :
    RowIn w4 p base u t v' k kt N rv Z y (j + 1) z ∧ Chg (fun x => base ≤ x) wi w4 := by
  have h' := h.still ha
  have hc : Chg (fun x => base ≤ x) wa w4 := Chg.of_grown hg (ownsRow_block h'.row)
  have hp := h.made.pb
  refine ⟨⟨⟨hp, hc.two h'.made.box (by show ¬ base ≤ p; omega), ⟨owns_not h'.made.out.top hg (owns_apart h'.made.out.top h'.row (by decide)), fun r hr => owns_not (h'.made.out.row r hr) hg (apart_of (h'.sepR r hr)), h'.made.out.apart, h'.made.out.bit⟩,
    owns_not h'.made.ints hg (apart_of h'.sepT), h'.made.sep, h'.made.rng⟩, IntsAt.told hown, fun g hg' e => ?_, fun r hr g hg' e => ?_⟩, (ha.mono fun _ e => e.elim).trans hc⟩
  · rcases hat with e2 | e2
    · exact h.sepT g (by rw [← e2]; exact hg') e
    · have := own_lt h'.made.ints g e
      rw [e2] at hg'
      have : wa.heap.size = g := by simpa using hg'
      omega
  · rcases hat with e2 | e2
    · exact h.sepR r hr g (by rw [← e2]; exact hg') e
    · have := own_lt (h'.made.out.row r hr) g e
      rw [e2] at hg'
      have : wa.heap.size = g := by simpa using hg'
      omega
theorem RowIn.opp {wi wa w4 : World} {p base : Nat} {u t t' v : Value} {k kt N j : Nat} {rv : Nat → Value} {Z : Nat → Nat → Int} {y z : Nat → Int} (h : RowIn wi p base u t v k kt N rv Z y j z) (ha : Chg (fun _ => False) wi wa)
    (hx : 0 ≤ y kt ∧ y kt < (N : Int)) (hown : w4.ownsRow base 3 1 t' (kt + 1) ((List.range kt).map (fun c => .int .i64 (y c)) ++ [.int .i64 (y kt)])) (hg : wa.grownBy w4 t.ownBlock) (hat : t'.ownBlock = t.ownBlock ∨ t'.ownBlock = some wa.heap.size) :
    RowIn (w4.setCell ⟨p, 1, none⟩ t') p base u t' v k (kt + 1) N rv Z y j z ∧ Chg (fun x => x = p ∨ base ≤ x) wi (w4.setCell ⟨p, 1, none⟩ t') := by
  have hm := h.made.more' ha hx hown hg hat
  have h' := h.still ha
  have hp := h.made.pb
  have hr4 : w4.ownsRow base 3 1 v j ((List.range j).map fun c => .int .i64 (z c)) := owns_not h'.row hg (apart_of' h'.sepT)
  refine ⟨⟨hm.1, (Chg.set (S := fun x => x = p) (w := w4) (i := 1) rfl t').own hr4 (fun g hg' e => by
    have h1 := ownsRow_block hr4 g hg'
    have e' : g = p := e
    omega), fun g hg' e => ?_, h.sepR⟩, hm.2⟩
  rcases hat with e2 | e2
  · exact h.sepT g hg' (by rw [← e2]; exact e)
  · have := own_lt h'.row g hg'
    rw [e2] at e
    have : wa.heap.size = g := by simpa using e
    omega
/-- The row is done: it is appended to the rows. -/
theorem RowIn.last {wi w4 : World} {p base : Nat} {u t u' v : Value} {k kt N : Nat} {rv : Nat → Value} {Z : Nat → Nat → Int} {y : Nat → Int} {o : Obj} (h : RowIn wi p base u t v k kt N rv Z y N (Z k)) (hz : ∀ c, c < N → 0 ≤ Z k c ∧ Z k c ≤ 2)
    (hown : w4.ownsRow base 24 1 u' (k + 1) ((List.range k).map rv ++ [v])) (hg : (wi.alloc o).grownBy w4 u.ownBlock) (hN : 0 < N) :
    MakeAt (w4.setCell ⟨p, 0, none⟩ u') p base u' t (k + 1) kt N (fun r => if r = k then v else rv r) Z y ∧ Chg (fun j => j = p ∨ base ≤ j) wi (w4.setCell ⟨p, 0, none⟩ u') := by
  have hm := h.made
  have hp := hm.pb
  obtain ⟨gk, ck, rfl, hgk, hgl, _⟩ := h.row.val hN
  have hb : (Value.slice (some ⟨gk, 0, none⟩) N ck).ownBlock = some gk := rfl
  have hne : ∀ r, r < k → (rv r).ownBlock ≠ (Value.slice (some ⟨gk, 0, none⟩) N ck).ownBlock := fun r hr e => h.sepR r hr gk hb (by rw [e, hb])
  have hO := hm.out.append h.row hz hne hown hg
  have eZ : (fun r c => if r = k then Z k c else Z r c) = Z := by
    funext r c
    by_cases e : r = k
    · rw [if_pos e, e]
    · rw [if_neg e]
  rw [eZ] at hO
  have ha := Chg.alloc (fun _ => False) wi o
  obtain ⟨hc, hb4⟩ := hm.mid ha hg (ownsRow_block hm.out.top)
  have hit := ha.own hm.ints fun _ _ e => e
  have hot := ha.own hm.out.top fun _ _ e => e
  have hi4 : w4.ownsRow base 3 1 t kt ((List.range kt).map fun c => .int .i64 (y c)) := owns_not hit hg (owns_apart hit hot (by decide))
  have hs := Chg.set (S := fun j => j = p) (w := w4) (i := 0) rfl u'
  have nob : ∀ {e : TypeId} {n : Nat} {v : Value} {xs : List Value}, w4.ownsRow base e 1 v n xs → ∀ g, v.ownBlock = some g → ¬ (fun j => j = p) g := fun ho g hg e => by
    have h1 := ownsRow_block ho g hg
    have e' : g = p := e
    omega
  refine ⟨⟨hp, hb4.set0 u', hs.out hO (nob hO.top) (fun r hr => nob (hO.row r hr)), hs.own hi4 (nob hi4), fun r hr => ?_, hm.rng⟩, (hc.mono fun j hj => .inr hj).trans (hs.mono fun j hj => .inl hj)⟩
  by_cases e : r = k
  · simp only [if_pos e]
    left
    intro e2
    exact h.sepT gk hb (by rw [← e2]; exact hb)
  · simp only [if_neg e]
    exact hm.sep r (by omega)

set_option maxRecDepth 100000 in
set_option maxHeartbeats 1000000 in
theorem spec_PartOf_no {w : World} {B : Nat} {ua : Option Addr} {l : Lay} {m : Mx} {na : Option Addr} {g o k nc N : Nat} {z : Nat → Int} {x : Int} {Z : Nat → Nat → Int} {y : Nat → Nat} (h0 : LogAt w B ua l m na g o k z) (hn : subV m k z x = false) :
    Calls Try.prog 116 #[.agg #[.slice ua m.n l.cap, .slice na k nc], .int .i64 x] w (MadeLog w N Z y false) := by
  have HN := Lib.hid hn
  have H0 := Lib.hid h0
  have xa := TwoAt.new w (.slice ua m.n l.cap) (.slice na k nc) 26
  have ba := (Below.refl w.heap.size w).alloc (Nat.le_refl _) (.cells #[(.slice ua m.n l.cap), (.slice na k nc)] 26)
  have xr := TwoAt.new (w.alloc (.cells #[(.slice ua m.n l.cap), (.slice na k nc)] 26)) (.slice none 0 0) (.slice none 0 0) 26
  have bb := (Below.refl (w.heap.size + 1) (w.alloc (.cells #[(.slice ua m.n l.cap), (.slice na k nc)] 26))).alloc (by simp) (.cells #[.slice none 0 0, .slice none 0 0] 26)
  simp only [World.size_alloc] at xr
  have xo := TwoAt.new ((w.alloc (.cells #[(.slice ua m.n l.cap), (.slice na k nc)] 26)).alloc (.cells #[.slice none 0 0, .slice none 0 0] 26)) (.slice none 0 0) (.slice none 0 0) 26
  have bc := (Below.refl (w.heap.size + 1 + 1) ((w.alloc (.cells #[(.slice ua m.n l.cap), (.slice na k nc)] 26)).alloc (.cells #[.slice none 0 0, .slice none 0 0] 26))).alloc (by simp) (.cells #[.slice none 0 0, .slice none 0 0] 26)
  simp only [World.size_alloc] at xo
  replace xa := (xa.below bb (by omega)).below bc (by omega)
  replace xr := xr.below bc (by omega)
  have B0 := (ba.trans (bb.mono (by omega))).trans (bc.mono (by omega))
  have s0 : w.heap.size + 1 + 1 < (((w.alloc (.cells #[(.slice ua m.n l.cap), (.slice na k nc)] 26)).alloc (.cells #[.slice none 0 0, .slice none 0 0] 26)).alloc (.cells #[.slice none 0 0, .slice none 0 0] 26)).heap.size := by simp
  clear ba bb bc h0 hn
  go_enter Try.func116, Try.ntmps116
  have q0 := xa.c0
  have q1 := xa.c1
  go_wp2_with fail
  generalize ((w.alloc (.cells #[(.slice ua m.n l.cap), (.slice na k nc)] 26)).alloc (.cells #[.slice none 0 0, .slice none 0 0] 26)).alloc (.cells #[.slice none 0 0, .slice none 0 0] 26) = w2 at xa xr xo B0 s0 q0 q1 ⊢
  go_at_call 126
  refine (spec_SubOk (LogAt.step H0.out B0)).mono ?_
  rintro e w3 ⟨rfl, b3⟩
  rw [HN.out]
  have s3 := b3.size
  have B3 := B0.trans (b3.mono B0.size)
  replace xa := xa.below b3 (by omega)
  replace xr := xr.below b3 (by omega)
  replace xo := xo.below b3 (by omega)
  clear q0 q1 B0 b3
  have r0 := xr.c0
  have r1 := xr.c1
  have r2 := xr.f0
  have r3 := xr.f1
  have o0' := xo.c0
  have o1' := xo.c1
  go_wp2_with fail
  have hfin := (xr.set0 (.slice none 0 0)).set1 (.slice none 0 0)
  have f0' := hfin.c0
  have f1' := hfin.c1
  exact bodyPost_ret (v := noLog) (by simp [results, Try.results116, go_sem, f0', f1', noLog]) rfl (madeLog_no (by omega) B3 rfl)

set_option maxRecDepth 100000 in
set_option maxHeartbeats 8000000 in
theorem spec_PartOf_in {w : World} {B g0 o0 nc0 s p0 : Nat} {l0 : Lay} {m0 : Mx} {z0 : Nat → Int} {y0 : Nat → Nat} (h0 : LogAt w B (some ⟨l0.b, l0.o, none⟩) l0 m0 (some ⟨g0, o0, none⟩) g0 o0 m0.n z0) (hO : Ortho m0 z0 y0 p0) (h1 : 1 ≤ s) (h2 : s < 2 ^ m0.n) (hcl : Closed m0 y0 s) :
    Calls Try.prog 116 #[.agg #[.slice (some ⟨l0.b, l0.o, none⟩) m0.n l0.cap, .slice (some ⟨g0, o0, none⟩) m0.n nc0], .int .i64 s] w (MadeLog w (memK s 12) (nameZ m0.Z (memF s 12)) (partY y0 (memF s 12) (memB s 12)) true) := by
  obtain ⟨i0, hi, hz0, hz1, hz2⟩ := info_parts infoInt
  have HI := Lib.hid hi
  have HZ0 := Lib.hid hz0
  have HZ1 := Lib.hid hz1
  have HZ2 := Lib.hid hz2
  obtain ⟨i1, hj, hy0, hy1, hy2⟩ := info_parts infoInts
  have HJ := Lib.hid hj
  have HY0 := Lib.hid hy0
  have HY1 := Lib.hid hy1
  have HY2 := Lib.hid hy2
  clear hi hz0 hz1 hz2 hj hy0 hy1 hy2
  have n0 : 1 ≤ m0.n ∧ m0.n ≤ 12 := ⟨hO.lat.order.pos, hO.lat.order.top⟩
  have hs4 : s < 4096 := Nat.lt_of_lt_of_le h2 (pow_le_12 n0.2)
  obtain ⟨q, hq⟩ : ∃ q : Nat → Nat, q = memF s 12 := ⟨_, rfl⟩
  obtain ⟨bq, hbq⟩ : ∃ q : Nat → Nat, q = memB s 12 := ⟨_, rfl⟩
  obtain ⟨K, hK⟩ : ∃ K, K = memK s 12 := ⟨_, rfl⟩
  obtain ⟨yy, hyy⟩ : ∃ yy : Nat → Nat, yy = partY y0 q bq := ⟨_, rfl⟩
  have hE : Emb m0.n K s q bq := by rw [hK, hq, hbq]; exact Emb.down n0.2 h2
  have hK1 : 1 ≤ K := by rw [hK]; exact mem_pos h1 hs4
  have hK12 : K ≤ 12 := by rw [hK]; exact memsTo_len s 12
  have HKN : Hid ((memsTo s m0.n).length = K) := by show _ = _; rw [hK]; exact (mems_stop n0.2 h2).symm
  have HQM : Hid (∀ j, j < m0.n → s.testBit j = true → q (memsTo s j).length = j) := fun j hj hb => by rw [hq]; exact mems_at (by omega) hb
  have HYK : Hid (∀ k, k < K → yy k < K ∧ ∀ j, j < K → (y0 (q k) = q j ↔ yy k = j)) := fun k hk => by
    rw [hyy]
    exact part_opp hE hcl hO hk
  have HV : Hid (subV m0 m0.n z0 (s : Int) = true) := by show _ = _; rw [subV_is hO h1 h2]; exact closedB_mk hcl
  have HQ := Lib.hid hE
  have HO := Lib.hid hO
  have H0 := Lib.hid h0
  rw [← hK, ← hq, ← hbq, ← hyy]
  clear hE hK hyy hbq hq h1 h2 hcl hO
  have xa := TwoAt.new w (.slice (some ⟨l0.b, l0.o, none⟩) m0.n l0.cap) (.slice (some ⟨g0, o0, none⟩) m0.n nc0) 26
  have ba := (Below.refl w.heap.size w).alloc (Nat.le_refl _) (.cells #[(.slice (some ⟨l0.b, l0.o, none⟩) m0.n l0.cap), (.slice (some ⟨g0, o0, none⟩) m0.n nc0)] 26)
  have xr := TwoAt.new (w.alloc (.cells #[(.slice (some ⟨l0.b, l0.o, none⟩) m0.n l0.cap), (.slice (some ⟨g0, o0, none⟩) m0.n nc0)] 26)) (.slice none 0 0) (.slice none 0 0) 26
  have bb := (Below.refl (w.heap.size + 1) (w.alloc (.cells #[(.slice (some ⟨l0.b, l0.o, none⟩) m0.n l0.cap), (.slice (some ⟨g0, o0, none⟩) m0.n nc0)] 26))).alloc (by simp) (.cells #[.slice none 0 0, .slice none 0 0] 26)
  simp only [World.size_alloc] at xr
  have xo := TwoAt.new ((w.alloc (.cells #[(.slice (some ⟨l0.b, l0.o, none⟩) m0.n l0.cap), (.slice (some ⟨g0, o0, none⟩) m0.n nc0)] 26)).alloc (.cells #[.slice none 0 0, .slice none 0 0] 26)) (.slice none 0 0) (.slice none 0 0) 26
  have bc := (Below.refl (w.heap.size + 1 + 1) ((w.alloc (.cells #[(.slice (some ⟨l0.b, l0.o, none⟩) m0.n l0.cap), (.slice (some ⟨g0, o0, none⟩) m0.n nc0)] 26)).alloc (.cells #[.slice none 0 0, .slice none 0 0] 26))).alloc (by simp) (.cells #[.slice none 0 0, .slice none 0 0] 26)
  simp only [World.size_alloc] at xo
  replace xa := (xa.below bb (by omega)).below bc (by omega)
  replace xr := xr.below bc (by omega)
  have B0 := (ba.trans (bb.mono (by omega))).trans (bc.mono (by omega))
  have s0 : w.heap.size + 1 + 1 < (((w.alloc (.cells #[(.slice (some ⟨l0.b, l0.o, none⟩) m0.n l0.cap), (.slice (some ⟨g0, o0, none⟩) m0.n nc0)] 26)).alloc (.cells #[.slice none 0 0, .slice none 0 0] 26)).alloc (.cells #[.slice none 0 0, .slice none 0 0] 26)).heap.size := by simp
  clear ba bb bc h0
  go_enter Try.func116, Try.ntmps116
  have q0 := xa.c0
  have q1 := xa.c1
  go_wp2_with fail
  generalize ((w.alloc (.cells #[(.slice (some ⟨l0.b, l0.o, none⟩) m0.n l0.cap), (.slice (some ⟨g0, o0, none⟩) m0.n nc0)] 26)).alloc (.cells #[.slice none 0 0, .slice none 0 0] 26)).alloc (.cells #[.slice none 0 0, .slice none 0 0] 26) = w2 at xa xr xo B0 s0 q0 q1 ⊢
  go_at_call 126
  refine (spec_SubOk (LogAt.step H0.out B0)).mono ?_
  rintro e w3 ⟨rfl, b3⟩
  rw [HV.out]
  have s3 := b3.size
  have B3 := B0.trans (b3.mono B0.size)
  have XA := Lib.hid (xa.below b3 (by omega))
  have XR := Lib.hid (xr.below b3 (by omega))
  have XO := Lib.hid (xo.below b3 (by omega))
  clear q0 q1 B0 b3 xa xr xo
  have hrow0 : IntsAt (w3.alloc (.cells #[] 3)) w3.heap.size (.slice (some ⟨w3.heap.size, 0, none⟩) 0 0) 0 (fun i => (q i : Int)) := World.ownsRow_lit (base := w3.heap.size) (e := 3) (size := 1) w3 #[] 0 (Nat.le_refl _) (Nat.zero_le _) rfl
  have hb0 := (Below.refl w3.heap.size w3).alloc (Nat.le_refl _) (.cells #[] 3)
  have hs1 : w3.heap.size < (w3.alloc (.cells #[] 3)).heap.size := by simp
  have q1 := XA.out.c1
  go_wp2_with fail
  clear q1
  go_loopw [6, 7] (fun t i wr => ∃ j : Nat, j ≤ m0.n ∧ i = .int .i64 j ∧ IntsAt wr w3.heap.size t (memsTo s j).length (fun i => (q i : Int)) ∧ Below w3.heap.size w3 wr ∧ w3.heap.size < wr.heap.size) (fun _ i _ => m0.n - (intOf i).toNat)
  case atStart => exact ⟨0, Nat.zero_le _, rfl, hrow0, hb0, hs1⟩
  case round =>
    clear hrow0 hb0 hs1
    obtain ⟨j, hj, rfl, hown, hW, hs⟩ := hrel
    have hlen := memsTo_len s j
    have hXA := XA.out.below hW (by omega)
    have q1 := hXA.c1
    by_cases hjt : j < m0.n
    · have hjt' : (j : Int) < (m0.n : Int) := by omega
      cases hb : s.testBit j with
      | false =>
        have t1 := bit_no hb
        have HN := Lib.hid (memsTo_no hb)
        clear hb
        go_wp2_with fail
        go_roundw
        case rel => exact ⟨j + 1, by omega, by go_num, by rw [HN.out]; exact hown, hW, hs⟩
        case measure => simp [intOf]; omega
      | true =>
        have t1 := bit_yes hb
        have HV2 := Lib.hid (HQM.out j hjt hb)
        have HN0 := Lib.hid (memsTo_yes hb)
        obtain ⟨c, hc⟩ : ∃ c, c = (memsTo s j).length := ⟨_, rfl⟩
        have HN : Hid ((memsTo s (j + 1)).length = c + 1) := by show _ = _; rw [HN0.out, List.length_append, List.length_singleton, ← hc]
        rw [← hc] at hown HV2 hlen
        have HW := Lib.hid hW
        clear hb hc HN0 hXA hW
        go_wp2_with (at_builtin; refine wpList_append_own _ rfl _ _ 24 rfl w3.heap.size 3 i0 (.int .i64 0) 1 8 Try.underlying24 HI.out HZ0.out HZ1.out HZ2.out rfl (by decide) _ _ _ rfl (World.ownsRow.alloc hown _) ⟨wr.heap.size, 0, none⟩ 1 1 [.int .i64 (j : Int)] rfl rfl (cell_one_new _ _ _) ?c2 ?c3 ?c4 ?c5 ?_)
        case c2 => simp [Value.oneCell']
        case c3 => unfold maxLen; omega
        case c4 => omega
        case c5 => first | omega | (simp; omega)
        intro v' w4 hown4 hgrow _
        have HO4 : Hid (IntsAt w4 w3.heap.size v' (c + 1) (fun i => (q i : Int))) := by
          show IntsAt _ _ _ _ _
          refine IntsAt.told ?_
          rw [HV2.out]
          exact hown4
        have hA : Below w3.heap.size wr (wr.alloc (.cells #[.int .i64 (j : Int)] 3)) := (Below.refl _ _).alloc (by omega) _
        have hG := hA.grown hgrow (by first | omega | (simp; omega)) (ownsRow_block hown)
        have hW4 := Lib.hid (HW.out.trans hG)
        have hs4' := hG.size
        clear hown4 hgrow hown hA hG
        go_wp2_with fail
        go_roundw
        case rel => exact ⟨j + 1, by omega, by go_num, by rw [HN.out]; exact HO4.out, hW4.out, by omega⟩
        case measure => simp [intOf]; omega
    · have hjt' : ¬ (j : Int) < (m0.n : Int) := by omega
      have hje : j = m0.n := by omega
      have hown' : IntsAt wr w3.heap.size u6 K (fun i => (q i : Int)) := by rw [hje, HKN.out] at hown; exact hown
      obtain ⟨gl, cl, rfl, hgl, hglt, _⟩ := hown'.val hK1
      have xr := XR.out.below hW (by omega)
      have xo := XO.out.below hW (by omega)
      have BW := B3.trans (hW.mono (by omega))
      have hM0 := MakeAt.begin (N := K) (base := wr.heap.size) (nameZ m0.Z q) (fun c => (yy c : Int)) (by omega) xo
      obtain ⟨BS, hBS⟩ : ∃ b : Nat, b = wr.heap.size := ⟨_, rfl⟩
      rw [← hBS] at hM0
      obtain ⟨w5, hw5⟩ : ∃ w5 : World, w5 = wr := ⟨_, rfl⟩
      have hBSa : BS ≤ w5.heap.size := by rw [hw5]; omega
      have hBSb : gl < BS ∧ w.heap.size + 1 + 1 < gl := by omega
      have XA5 : Hid (TwoAt w5 w.heap.size (.slice (some ⟨l0.b, l0.o, none⟩) m0.n l0.cap) (.slice (some ⟨g0, o0, none⟩) m0.n nc0)) := by show TwoAt _ _ _ _; rw [hw5]; exact hXA
      have XR5 : Hid (TwoAt w5 (w.heap.size + 1) (.slice none 0 0) (.slice none 0 0)) := by show TwoAt _ _ _ _; rw [hw5]; exact xr
      have B5 : Hid (Below w.heap.size w w5) := by show Below _ _ _; rw [hw5]; exact BW
      have I5 : Hid (IntsAt w5 w3.heap.size (.slice (some ⟨gl, 0, none⟩) K cl) K (fun i => (q i : Int))) := by show IntsAt _ _ _ _ _; rw [hw5]; exact hown'
      have C5 : Chg (fun j => j = w.heap.size + 1 + 1 ∨ BS ≤ j) w5 wr := by rw [hw5]; exact ⟨rfl, rfl, rfl, Nat.le_refl _, fun _ _ _ => rfl⟩
      clear hown hown' hje XA XR XO hW BW xo xr hBS hw5 hXA hj hjt hgl hglt
      go_wp2_with fail
      clear q1
      go_loopw [8] (fun i wr => ∃ (k : Nat) (u t : Value) (rv : Nat → Value), k ≤ K ∧ i = .int .i64 k ∧ Chg (fun j => j = w.heap.size + 1 + 1 ∨ BS ≤ j) w5 wr ∧ MakeAt wr (w.heap.size + 1 + 1) BS u t k k K rv (nameZ m0.Z q) (fun c => (yy c : Int))) (fun i _ => K - (intOf i).toNat)
      case atStart => exact ⟨0, _, _, _, Nat.zero_le _, rfl, C5, hM0⟩
      case round =>
        clear hM0 C5
        obtain ⟨k, u, t, rv, hk, rfl, hC, hM⟩ := hrel
        have hCs := hC.size
        have hXR := hC.two XR5.out (by show ¬ (_ ∨ _); omega)
        have BW := B5.out.trans (hC.below B5.out.size (fun j hj => by have hj' : j = w.heap.size + 1 + 1 ∨ BS ≤ j := hj; omega))
        by_cases hlt : k < K
        · have hlt' : (k : Int) < (K : Int) := by omega
          obtain ⟨qk, hqk⟩ : ∃ b : Nat, b = q k := ⟨_, rfl⟩
          have lqk : qk < m0.n := by rw [hqk]; exact HQ.out.lt k hlt
          have lyk := (HYK.out k hlt).1
          have HQK := Lib.hid hqk
          have HRS := Lib.hid (RowIn.start (z := nameZ m0.Z q k) hM (by omega))
          have hcw := hC.trans (Chg.alloc (fun j => j = w.heap.size + 1 + 1 ∨ BS ≤ j) wr (.cells #[] 3))
          have n1 : (if yy k < 0 then k + 1 else k) = k := if_neg (Nat.not_lt_zero _)
          clear hqk hM hXR BW hCs
          go_wp2_with fail
          go_loopw [9, 10] (fun v i wi => ∃ (j : Nat) (t : Value), j ≤ K ∧ i = .int .i64 j ∧ Chg (fun j => j = w.heap.size + 1 + 1 ∨ BS ≤ j) w5 wi ∧ Hid (RowIn wi (w.heap.size + 1 + 1) BS u t v k (if yy k < j then k + 1 else k) K rv (nameZ m0.Z q) (fun c => (yy c : Int)) j (nameZ m0.Z q k))) (fun _ i _ => K - (intOf i).toNat)
          case atStart => exact ⟨0, _, Nat.zero_le _, rfl, hcw, by rw [n1]; exact HRS.out⟩
          case round =>
            clear HRS hcw n1 hC
            obtain ⟨j, t, hj, rfl, hC, HR2⟩ := hrel
            have hCs := hC.size
            have BW := B5.out.trans (hC.below B5.out.size (fun j hj => by have hj' : j = w.heap.size + 1 + 1 ∨ BS ≤ j := hj; omega))
            obtain ⟨wo, rfl⟩ : ∃ wo : World, wo = wr := ⟨_, rfl⟩
            by_cases hjt : j < K
            · have hjt' : (j : Int) < (K : Int) := by omega
              obtain ⟨qj, hqj⟩ : ∃ b : Nat, b = q j := ⟨_, rfl⟩
              have lqj : qj < m0.n := by rw [hqj]; exact HQ.out.lt j hjt
              have HQJ := Lib.hid hqj
              have HTZ : Hid (nameZ m0.Z q k j = m0.Z qk qj) := by show _ = _; unfold nameZ; rw [HQK.out, hqj]
              have HYJ : Hid (y0 qk = qj ↔ yy k = j) := by show _ ↔ _; rw [HQK.out, hqj]; exact (HYK.out k hlt).2 j hjt
              have I0 := H0.out.step BW
              have hXA := hC.two XA5.out (by show ¬ (_ ∨ _); omega)
              have hII := hC.ints I5.out (fun g hg => by have e : gl = g := (by simpa [Value.ownBlock] using hg); show ¬ (_ ∨ _); omega)
              have f0 := hXA.c0
              have f0b := hXA.c1
              have f1 := hII.cell hlt
              rw [← HQK.out] at f1
              have f2 := (I0.mat.sq HO.out.lat.order.sq lqk lqj).2.1
              have f3 := hII.cell hjt
              rw [← hqj] at f3
              have f4 := (I0.mat.sq HO.out.lat.order.sq lqk lqj).2.2
              have hlw : ∀ {a : Addr} {v : Value}, w.cell? a = some v → a.block < w.heap.size := fun {a v} h => World.block_lt_of_cell? w _ h
              have hsB := BW.size
              have gl1 : gl < wo.heap.size := World.block_lt_of_cell? wo ⟨gl, k, none⟩ f1
              have fl0 : w.heap.size < wo.heap.size ∧ ¬ (w.heap.size = w.heap.size + 1 + 1 ∨ BS ≤ w.heap.size) := by omega
              have fl1 : gl < wo.heap.size ∧ ¬ (gl = w.heap.size + 1 + 1 ∨ BS ≤ gl) := by omega
              have fl2 : l0.b < wo.heap.size ∧ ¬ (l0.b = w.heap.size + 1 + 1 ∨ BS ≤ l0.b) := by have := hlw (H0.out.mat.sq HO.out.lat.order.sq lqk lqj).2.1; have h2 : l0.b < w.heap.size := this; omega
              have fl3 : gl < wo.heap.size ∧ ¬ (gl = w.heap.size + 1 + 1 ∨ BS ≤ gl) := fl1
              have fl4 : l0.G qk < wo.heap.size ∧ ¬ (l0.G qk = w.heap.size + 1 + 1 ∨ BS ≤ l0.G qk) := by have := hlw (H0.out.mat.sq HO.out.lat.order.sq lqk lqj).2.2; have h2 : l0.G qk < w.heap.size := this; omega
              have c1 : (qk : Int) < (m0.n : Int) := by omega
              have c2 : (qj : Int) < (m0.n : Int) := by omega
              have hT1 : ∀ o', ((wo.drew).alloc o').ownsRow BS 3 1 u9 j ((List.range j).map fun c => .int .i64 (nameZ m0.Z q k c)) := fun o' => ((Chg.drew (fun _ => False) wo).trans (Chg.alloc _ _ o')).own HR2.out.row (fun _ _ h => h)
              have hCH : ∀ o', Chg (fun _ => False) wo ((wo.drew).alloc o') := fun o' => (Chg.drew (fun _ => False) wo).trans (Chg.alloc _ _ o')
              have hW1 : ∀ o', Chg (fun j => j = w.heap.size + 1 + 1 ∨ BS ≤ j) wo ((wo.drew).alloc o') := fun o' => (hCH o').mono fun _ e => e.elim
              have ma1 := Lib.hid (show j + 1 ≤ maxLen by unfold maxLen; omega)
              have ma2 := Lib.hid (show (j + 1) * 8 ≤ 140737488355328 by omega)
              have ma3 := Lib.hid (show ∀ o', BS ≤ ((wo.drew).alloc o').heap.size from fun o' => by simp; omega)
              have ma4 := Lib.hid (show ∀ x : Int, ∀ u ∈ [Value.int .i64 x], u.oneCell' = true from fun x => by simp [Value.oneCell'])
              have K0 : Chg (fun j => j = w.heap.size + 1 + 1 ∨ BS ≤ j) wo wo.drew := Chg.drew _ _
              clear hqj I0 hXA hII BW hlw gl1
              go_wp2_with fail
              refine region_plain (fuel := 18) (listed := #[false, false, false, false, false, false, false, false, false, false, false, false, false, false, false, false, false, false]) (fun W' => Chg (fun j => j = w.heap.size + 1 + 1 ∨ BS ≤ j) wo W') (by kernel_rfl) (by kernel_rfl) (by kernel_rfl) ?_
              refine hold_take (i := 0) (d := 47) (v := ?va0) (listed' := #[true, false, false, false, false, false, false, false, false, false, false, false, false, false, false, false, false, false]) rfl (by kernel_rfl) (by kernel_rfl) (by kernel_rfl) rfl (by rfl) (by kernel_rfl) K0 ?ha0 ?ra0
              case ha0 =>
                intro w' hSw
                have hSb : Chg (fun j => j = w.heap.size + 1 + 1 ∨ BS ≤ j) wo w' := hSw; have x0 := (World.cell?_of_block (a := ⟨w.heap.size, 0, none⟩) (hSb.block _ fl0.1 fl0.2)).trans f0; have x1 := (World.cell?_of_block (a := ⟨gl, k, none⟩) (hSb.block _ fl1.1 fl1.2)).trans f1; have x2 := (World.cell?_of_block (a := ⟨l0.b, l0.o + qk, none⟩) (hSb.block _ fl2.1 fl2.2)).trans f2; have x3 := (World.cell?_of_block (a := ⟨gl, j, none⟩) (hSb.block _ fl3.1 fl3.2)).trans f3; have x4 := (World.cell?_of_block (a := ⟨l0.G qk, l0.O qk + qj, none⟩) (hSb.block _ fl4.1 fl4.2)).trans f4
                go_simp
                try with_reducible rfl
              simp only [List.setIfInBounds_toArray, List.set_cons_zero, List.set_cons_succ]
              refine hold_take (i := 1) (d := 48) (v := ?va1) (listed' := #[true, true, false, false, false, false, false, false, false, false, false, false, false, false, false, false, false, false]) rfl (by kernel_rfl) (by kernel_rfl) (by kernel_rfl) rfl (by rfl) (by kernel_rfl) K0 ?ha1 ?ra1
              case ha1 =>
                intro w' hSw
                have hSb : Chg (fun j => j = w.heap.size + 1 + 1 ∨ BS ≤ j) wo w' := hSw; have x0 := (World.cell?_of_block (a := ⟨w.heap.size, 0, none⟩) (hSb.block _ fl0.1 fl0.2)).trans f0; have x1 := (World.cell?_of_block (a := ⟨gl, k, none⟩) (hSb.block _ fl1.1 fl1.2)).trans f1; have x2 := (World.cell?_of_block (a := ⟨l0.b, l0.o + qk, none⟩) (hSb.block _ fl2.1 fl2.2)).trans f2; have x3 := (World.cell?_of_block (a := ⟨gl, j, none⟩) (hSb.block _ fl3.1 fl3.2)).trans f3; have x4 := (World.cell?_of_block (a := ⟨l0.G qk, l0.O qk + qj, none⟩) (hSb.block _ fl4.1 fl4.2)).trans f4
                go_simp
                try with_reducible rfl
              simp only [List.setIfInBounds_toArray, List.set_cons_zero, List.set_cons_succ]
              refine hold_take (i := 2) (d := 49) (v := ?va2) (listed' := #[true, true, true, false, false, false, false, false, false, false, false, false, false, false, false, false, false, false]) rfl (by kernel_rfl) (by kernel_rfl) (by kernel_rfl) rfl (by rfl) (by kernel_rfl) K0 ?ha2 ?ra2
              case ha2 =>
                intro w' hSw
                have hSb : Chg (fun j => j = w.heap.size + 1 + 1 ∨ BS ≤ j) wo w' := hSw; have x0 := (World.cell?_of_block (a := ⟨w.heap.size, 0, none⟩) (hSb.block _ fl0.1 fl0.2)).trans f0; have x1 := (World.cell?_of_block (a := ⟨gl, k, none⟩) (hSb.block _ fl1.1 fl1.2)).trans f1; have x2 := (World.cell?_of_block (a := ⟨l0.b, l0.o + qk, none⟩) (hSb.block _ fl2.1 fl2.2)).trans f2; have x3 := (World.cell?_of_block (a := ⟨gl, j, none⟩) (hSb.block _ fl3.1 fl3.2)).trans f3; have x4 := (World.cell?_of_block (a := ⟨l0.G qk, l0.O qk + qj, none⟩) (hSb.block _ fl4.1 fl4.2)).trans f4
                go_simp
                try with_reducible rfl
              simp only [List.setIfInBounds_toArray, List.set_cons_zero, List.set_cons_succ]
              refine hold_take (i := 3) (d := 50) (v := ?va3) (listed' := #[true, true, true, true, false, false, false, false, false, false, false, false, false, false, false, false, false, false]) rfl (by kernel_rfl) (by kernel_rfl) (by kernel_rfl) rfl (by rfl) (by kernel_rfl) K0 ?ha3 ?ra3
              case ha3 =>
                intro w' hSw
                have hSb : Chg (fun j => j = w.heap.size + 1 + 1 ∨ BS ≤ j) wo w' := hSw; have x0 := (World.cell?_of_block (a := ⟨w.heap.size, 0, none⟩) (hSb.block _ fl0.1 fl0.2)).trans f0; have x1 := (World.cell?_of_block (a := ⟨gl, k, none⟩) (hSb.block _ fl1.1 fl1.2)).trans f1; have x2 := (World.cell?_of_block (a := ⟨l0.b, l0.o + qk, none⟩) (hSb.block _ fl2.1 fl2.2)).trans f2; have x3 := (World.cell?_of_block (a := ⟨gl, j, none⟩) (hSb.block _ fl3.1 fl3.2)).trans f3; have x4 := (World.cell?_of_block (a := ⟨l0.G qk, l0.O qk + qj, none⟩) (hSb.block _ fl4.1 fl4.2)).trans f4
                go_simp
                try with_reducible rfl
              simp only [List.setIfInBounds_toArray, List.set_cons_zero, List.set_cons_succ]
              refine hold_take (i := 4) (d := 51) (v := ?va4) (listed' := #[true, true, true, true, true, false, false, false, false, false, false, false, false, false, false, false, false, false]) rfl (by kernel_rfl) (by kernel_rfl) (by kernel_rfl) rfl (by rfl) (by kernel_rfl) K0 ?ha4 ?ra4
              case ha4 =>
                intro w' hSw
                have hSb : Chg (fun j => j = w.heap.size + 1 + 1 ∨ BS ≤ j) wo w' := hSw; have x0 := (World.cell?_of_block (a := ⟨w.heap.size, 0, none⟩) (hSb.block _ fl0.1 fl0.2)).trans f0; have x1 := (World.cell?_of_block (a := ⟨gl, k, none⟩) (hSb.block _ fl1.1 fl1.2)).trans f1; have x2 := (World.cell?_of_block (a := ⟨l0.b, l0.o + qk, none⟩) (hSb.block _ fl2.1 fl2.2)).trans f2; have x3 := (World.cell?_of_block (a := ⟨gl, j, none⟩) (hSb.block _ fl3.1 fl3.2)).trans f3; have x4 := (World.cell?_of_block (a := ⟨l0.G qk, l0.O qk + qj, none⟩) (hSb.block _ fl4.1 fl4.2)).trans f4
                go_simp
                try with_reducible rfl
              simp only [List.setIfInBounds_toArray, List.set_cons_zero, List.set_cons_succ]
              refine hold_take (i := 5) (d := 52) (v := ?va5) (listed' := #[true, true, true, true, true, true, false, false, false, false, false, false, false, false, false, false, false, false]) rfl (by kernel_rfl) (by kernel_rfl) (by kernel_rfl) rfl (by rfl) (by kernel_rfl) K0 ?ha5 ?ra5
              case ha5 =>
                intro w' hSw
                have hSb : Chg (fun j => j = w.heap.size + 1 + 1 ∨ BS ≤ j) wo w' := hSw; have x0 := (World.cell?_of_block (a := ⟨w.heap.size, 0, none⟩) (hSb.block _ fl0.1 fl0.2)).trans f0; have x1 := (World.cell?_of_block (a := ⟨gl, k, none⟩) (hSb.block _ fl1.1 fl1.2)).trans f1; have x2 := (World.cell?_of_block (a := ⟨l0.b, l0.o + qk, none⟩) (hSb.block _ fl2.1 fl2.2)).trans f2; have x3 := (World.cell?_of_block (a := ⟨gl, j, none⟩) (hSb.block _ fl3.1 fl3.2)).trans f3; have x4 := (World.cell?_of_block (a := ⟨l0.G qk, l0.O qk + qj, none⟩) (hSb.block _ fl4.1 fl4.2)).trans f4
                go_simp
                try with_reducible rfl
              simp only [List.setIfInBounds_toArray, List.set_cons_zero, List.set_cons_succ]
              refine hold_take (i := 6) (d := 53) (v := ?va6) (listed' := #[true, true, true, true, true, true, true, false, false, false, false, false, false, false, false, false, false, false]) rfl (by kernel_rfl) (by kernel_rfl) (by kernel_rfl) rfl (by rfl) (by kernel_rfl) K0 ?ha6 ?ra6
              case ha6 =>
                intro w' hSw
                have hSb : Chg (fun j => j = w.heap.size + 1 + 1 ∨ BS ≤ j) wo w' := hSw; have x0 := (World.cell?_of_block (a := ⟨w.heap.size, 0, none⟩) (hSb.block _ fl0.1 fl0.2)).trans f0; have x1 := (World.cell?_of_block (a := ⟨gl, k, none⟩) (hSb.block _ fl1.1 fl1.2)).trans f1; have x2 := (World.cell?_of_block (a := ⟨l0.b, l0.o + qk, none⟩) (hSb.block _ fl2.1 fl2.2)).trans f2; have x3 := (World.cell?_of_block (a := ⟨gl, j, none⟩) (hSb.block _ fl3.1 fl3.2)).trans f3; have x4 := (World.cell?_of_block (a := ⟨l0.G qk, l0.O qk + qj, none⟩) (hSb.block _ fl4.1 fl4.2)).trans f4
                go_simp
                try with_reducible rfl
              simp only [List.setIfInBounds_toArray, List.set_cons_zero, List.set_cons_succ]
              refine hold_take (i := 7) (d := 54) (v := ?va7) (listed' := #[true, true, true, true, true, true, true, true, false, false, false, false, false, false, false, false, false, false]) rfl (by kernel_rfl) (by kernel_rfl) (by kernel_rfl) rfl (by rfl) (by kernel_rfl) K0 ?ha7 ?ra7
              case ha7 =>
                intro w' hSw
                have hSb : Chg (fun j => j = w.heap.size + 1 + 1 ∨ BS ≤ j) wo w' := hSw; have x0 := (World.cell?_of_block (a := ⟨w.heap.size, 0, none⟩) (hSb.block _ fl0.1 fl0.2)).trans f0; have x1 := (World.cell?_of_block (a := ⟨gl, k, none⟩) (hSb.block _ fl1.1 fl1.2)).trans f1; have x2 := (World.cell?_of_block (a := ⟨l0.b, l0.o + qk, none⟩) (hSb.block _ fl2.1 fl2.2)).trans f2; have x3 := (World.cell?_of_block (a := ⟨gl, j, none⟩) (hSb.block _ fl3.1 fl3.2)).trans f3; have x4 := (World.cell?_of_block (a := ⟨l0.G qk, l0.O qk + qj, none⟩) (hSb.block _ fl4.1 fl4.2)).trans f4
                go_simp
                try with_reducible rfl
              simp only [List.setIfInBounds_toArray, List.set_cons_zero, List.set_cons_succ]
              refine hold_take (i := 8) (d := 55) (v := ?va8) (listed' := #[true, true, true, true, true, true, true, true, true, false, false, false, false, false, false, false, false, false]) rfl (by kernel_rfl) (by kernel_rfl) (by kernel_rfl) rfl (by rfl) (by kernel_rfl) K0 ?ha8 ?ra8
              case ha8 =>
                intro w' hSw
                have hSb : Chg (fun j => j = w.heap.size + 1 + 1 ∨ BS ≤ j) wo w' := hSw; have x0 := (World.cell?_of_block (a := ⟨w.heap.size, 0, none⟩) (hSb.block _ fl0.1 fl0.2)).trans f0; have x1 := (World.cell?_of_block (a := ⟨gl, k, none⟩) (hSb.block _ fl1.1 fl1.2)).trans f1; have x2 := (World.cell?_of_block (a := ⟨l0.b, l0.o + qk, none⟩) (hSb.block _ fl2.1 fl2.2)).trans f2; have x3 := (World.cell?_of_block (a := ⟨gl, j, none⟩) (hSb.block _ fl3.1 fl3.2)).trans f3; have x4 := (World.cell?_of_block (a := ⟨l0.G qk, l0.O qk + qj, none⟩) (hSb.block _ fl4.1 fl4.2)).trans f4
                go_simp
                try with_reducible rfl
              simp only [List.setIfInBounds_toArray, List.set_cons_zero, List.set_cons_succ]
              refine hold_take (i := 9) (d := 56) (v := ?va9) (listed' := #[true, true, true, true, true, true, true, true, true, true, false, false, false, false, false, false, false, false]) rfl (by kernel_rfl) (by kernel_rfl) (by kernel_rfl) rfl (by rfl) (by kernel_rfl) K0 ?ha9 ?ra9
              case ha9 =>
                intro w' hSw
                have hSb : Chg (fun j => j = w.heap.size + 1 + 1 ∨ BS ≤ j) wo w' := hSw; have x0 := (World.cell?_of_block (a := ⟨w.heap.size, 0, none⟩) (hSb.block _ fl0.1 fl0.2)).trans f0; have x1 := (World.cell?_of_block (a := ⟨gl, k, none⟩) (hSb.block _ fl1.1 fl1.2)).trans f1; have x2 := (World.cell?_of_block (a := ⟨l0.b, l0.o + qk, none⟩) (hSb.block _ fl2.1 fl2.2)).trans f2; have x3 := (World.cell?_of_block (a := ⟨gl, j, none⟩) (hSb.block _ fl3.1 fl3.2)).trans f3; have x4 := (World.cell?_of_block (a := ⟨l0.G qk, l0.O qk + qj, none⟩) (hSb.block _ fl4.1 fl4.2)).trans f4
                go_simp
                try with_reducible rfl
              simp only [List.setIfInBounds_toArray, List.set_cons_zero, List.set_cons_succ]
              refine hold_take (i := 10) (d := 57) (v := ?va10) (listed' := #[true, true, true, true, true, true, true, true, true, true, true, false, false, false, false, false, false, false]) rfl (by kernel_rfl) (by kernel_rfl) (by kernel_rfl) rfl (by rfl) (by kernel_rfl) K0 ?ha10 ?ra10
              case ha10 =>
                intro w' hSw
                have hSb : Chg (fun j => j = w.heap.size + 1 + 1 ∨ BS ≤ j) wo w' := hSw; have x0 := (World.cell?_of_block (a := ⟨w.heap.size, 0, none⟩) (hSb.block _ fl0.1 fl0.2)).trans f0; have x1 := (World.cell?_of_block (a := ⟨gl, k, none⟩) (hSb.block _ fl1.1 fl1.2)).trans f1; have x2 := (World.cell?_of_block (a := ⟨l0.b, l0.o + qk, none⟩) (hSb.block _ fl2.1 fl2.2)).trans f2; have x3 := (World.cell?_of_block (a := ⟨gl, j, none⟩) (hSb.block _ fl3.1 fl3.2)).trans f3; have x4 := (World.cell?_of_block (a := ⟨l0.G qk, l0.O qk + qj, none⟩) (hSb.block _ fl4.1 fl4.2)).trans f4
                go_simp
                try with_reducible rfl
              simp only [List.setIfInBounds_toArray, List.set_cons_zero, List.set_cons_succ]
              refine hold_take (i := 11) (d := 58) (v := ?va11) (listed' := #[true, true, true, true, true, true, true, true, true, true, true, true, false, false, false, false, false, false]) rfl (by kernel_rfl) (by kernel_rfl) (by kernel_rfl) rfl (by rfl) (by kernel_rfl) K0 ?ha11 ?ra11
              case ha11 =>
                intro w' hSw
                have hSb : Chg (fun j => j = w.heap.size + 1 + 1 ∨ BS ≤ j) wo w' := hSw; have x0 := (World.cell?_of_block (a := ⟨w.heap.size, 0, none⟩) (hSb.block _ fl0.1 fl0.2)).trans f0; have x1 := (World.cell?_of_block (a := ⟨gl, k, none⟩) (hSb.block _ fl1.1 fl1.2)).trans f1; have x2 := (World.cell?_of_block (a := ⟨l0.b, l0.o + qk, none⟩) (hSb.block _ fl2.1 fl2.2)).trans f2; have x3 := (World.cell?_of_block (a := ⟨gl, j, none⟩) (hSb.block _ fl3.1 fl3.2)).trans f3; have x4 := (World.cell?_of_block (a := ⟨l0.G qk, l0.O qk + qj, none⟩) (hSb.block _ fl4.1 fl4.2)).trans f4
                go_simp
                try with_reducible rfl
              simp only [List.setIfInBounds_toArray, List.set_cons_zero, List.set_cons_succ]
              refine hold_take (i := 12) (d := 59) (v := ?va12) (listed' := #[true, true, true, true, true, true, true, true, true, true, true, true, true, false, false, false, false, false]) rfl (by kernel_rfl) (by kernel_rfl) (by kernel_rfl) rfl (by rfl) (by kernel_rfl) K0 ?ha12 ?ra12
              case ha12 =>
                intro w' hSw
                have hSb : Chg (fun j => j = w.heap.size + 1 + 1 ∨ BS ≤ j) wo w' := hSw; have x0 := (World.cell?_of_block (a := ⟨w.heap.size, 0, none⟩) (hSb.block _ fl0.1 fl0.2)).trans f0; have x1 := (World.cell?_of_block (a := ⟨gl, k, none⟩) (hSb.block _ fl1.1 fl1.2)).trans f1; have x2 := (World.cell?_of_block (a := ⟨l0.b, l0.o + qk, none⟩) (hSb.block _ fl2.1 fl2.2)).trans f2; have x3 := (World.cell?_of_block (a := ⟨gl, j, none⟩) (hSb.block _ fl3.1 fl3.2)).trans f3; have x4 := (World.cell?_of_block (a := ⟨l0.G qk, l0.O qk + qj, none⟩) (hSb.block _ fl4.1 fl4.2)).trans f4
                go_simp
                try with_reducible rfl
              simp only [List.setIfInBounds_toArray, List.set_cons_zero, List.set_cons_succ]
              refine hold_take (i := 13) (d := 60) (v := ?va13) (listed' := #[true, true, true, true, true, true, true, true, true, true, true, true, true, true, false, false, false, false]) rfl (by kernel_rfl) (by kernel_rfl) (by kernel_rfl) rfl (by rfl) (by kernel_rfl) K0 ?ha13 ?ra13
              case ha13 =>
                intro w' hSw
                have hSb : Chg (fun j => j = w.heap.size + 1 + 1 ∨ BS ≤ j) wo w' := hSw; have x0 := (World.cell?_of_block (a := ⟨w.heap.size, 0, none⟩) (hSb.block _ fl0.1 fl0.2)).trans f0; have x1 := (World.cell?_of_block (a := ⟨gl, k, none⟩) (hSb.block _ fl1.1 fl1.2)).trans f1; have x2 := (World.cell?_of_block (a := ⟨l0.b, l0.o + qk, none⟩) (hSb.block _ fl2.1 fl2.2)).trans f2; have x3 := (World.cell?_of_block (a := ⟨gl, j, none⟩) (hSb.block _ fl3.1 fl3.2)).trans f3; have x4 := (World.cell?_of_block (a := ⟨l0.G qk, l0.O qk + qj, none⟩) (hSb.block _ fl4.1 fl4.2)).trans f4
                go_simp
                try with_reducible rfl
              simp only [List.setIfInBounds_toArray, List.set_cons_zero, List.set_cons_succ]
              refine hold_take (i := 14) (d := 61) (v := ?va14) (listed' := #[true, true, true, true, true, true, true, true, true, true, true, true, true, true, true, false, false, false]) rfl (by kernel_rfl) (by kernel_rfl) (by kernel_rfl) rfl (by rfl) (by kernel_rfl) K0 ?ha14 ?ra14
              case ha14 =>
                intro w' hSw
                have hSb : Chg (fun j => j = w.heap.size + 1 + 1 ∨ BS ≤ j) wo w' := hSw; have x0 := (World.cell?_of_block (a := ⟨w.heap.size, 0, none⟩) (hSb.block _ fl0.1 fl0.2)).trans f0; have x1 := (World.cell?_of_block (a := ⟨gl, k, none⟩) (hSb.block _ fl1.1 fl1.2)).trans f1; have x2 := (World.cell?_of_block (a := ⟨l0.b, l0.o + qk, none⟩) (hSb.block _ fl2.1 fl2.2)).trans f2; have x3 := (World.cell?_of_block (a := ⟨gl, j, none⟩) (hSb.block _ fl3.1 fl3.2)).trans f3; have x4 := (World.cell?_of_block (a := ⟨l0.G qk, l0.O qk + qj, none⟩) (hSb.block _ fl4.1 fl4.2)).trans f4
                go_simp
                try with_reducible rfl
              simp only [List.setIfInBounds_toArray, List.set_cons_zero, List.set_cons_succ]
              refine hold_value (i := 15) (d := 62) (listed' := #[true, true, true, true, true, true, true, true, true, true, true, true, true, true, true, true, false, false]) rfl (by kernel_rfl) rfl (by rfl) (by kernel_rfl) (v := .slice (some ⟨wo.heap.size, 0, none⟩) 1 1) (w' := (wo.drew).alloc (.cells #[.int .i64 (m0.Z qk qj)] 3)) ?hva15 (hW1 _) ?_
              case hva15 =>
                go_simp
                try with_reducible rfl
              simp only [List.setIfInBounds_toArray, List.set_cons_zero, List.set_cons_succ]
              refine hold_append (k := 16) (d := 63) (listed' := #[true, true, true, true, true, true, true, true, true, true, true, true, true, true, true, true, true, false]) rfl (by kernel_rfl) rfl (by kernel_rfl) rfl (.tmp 47) (.tmp 62) 24 rfl (BS) 3 i0 (.int .i64 0) 1 8 Try.underlying24 HI.out HZ0.out HZ1.out HZ2.out rfl (by decide) u9 j _ (by simp [Act.eval]) (hT1 _) ⟨wo.heap.size, 0, none⟩ 1 1 [.int .i64 (m0.Z qk qj)] (by simp [Act.eval]) rfl (cell_one_new _ _ _) (ma4.out _) ma1.out ma2.out (ma3.out _) ?_
              intro v6 w6 hown6 hgrow6 hat6
              have hRA := HR2.out.append (hCH _) (by rw [HTZ.out]; exact hown6) hgrow6 hat6
              have hW6 : Chg (fun j => j = w.heap.size + 1 + 1 ∨ BS ≤ j) wo w6 := hRA.2.mono fun _ h => .inr h
              have HRA := Lib.hid hRA.1
              clear hown6 hgrow6 hat6 hRA
              refine ⟨hW6, ?_⟩
              simp only [List.setIfInBounds_toArray, List.set_cons_zero, List.set_cons_succ]
              refine hold_take (i := 17) (d := 9) (v := ?va17) (listed' := #[true, true, true, true, true, true, true, true, true, true, true, true, true, true, true, true, true, true]) rfl (by kernel_rfl) (by kernel_rfl) (by kernel_rfl) rfl (by rfl) (by kernel_rfl) hW6 ?ha17 ?ra17
              case ha17 =>
                intro w' hSw
                have hSb : Chg (fun j => j = w.heap.size + 1 + 1 ∨ BS ≤ j) wo w' := hSw; have x0 := (World.cell?_of_block (a := ⟨w.heap.size, 0, none⟩) (hSb.block _ fl0.1 fl0.2)).trans f0; have x1 := (World.cell?_of_block (a := ⟨gl, k, none⟩) (hSb.block _ fl1.1 fl1.2)).trans f1; have x2 := (World.cell?_of_block (a := ⟨l0.b, l0.o + qk, none⟩) (hSb.block _ fl2.1 fl2.2)).trans f2; have x3 := (World.cell?_of_block (a := ⟨gl, j, none⟩) (hSb.block _ fl3.1 fl3.2)).trans f3; have x4 := (World.cell?_of_block (a := ⟨l0.G qk, l0.O qk + qj, none⟩) (hSb.block _ fl4.1 fl4.2)).trans f4
                go_simp
                try with_reducible rfl
              simp only [List.setIfInBounds_toArray, List.set_cons_zero, List.set_cons_succ]
              refine hold_done (by kernel_rfl) ?_ _
              have HC6 := Lib.hid (hC.trans hW6)
              have hCs6 := HC6.out.size
              have BW := B5.out.trans (HC6.out.below B5.out.size (fun j hj => by have hj' : j = w.heap.size + 1 + 1 ∨ BS ≤ j := hj; omega))
              have I0 := H0.out.step BW
              clear hW6 hW1 hT1 K0 f0 f0b f1 f2 f3 f4 fl0 fl2 fl4 hCH ma3
              have hXA := HC6.out.two XA5.out (by show ¬ (_ ∨ _); omega)
              have hII := HC6.out.ints I5.out (fun g hg => by have e : gl = g := (by simpa [Value.ownBlock] using hg); show ¬ (_ ∨ _); omega)
              have f0 := hXA.c1
              have f1 := hII.cell hlt
              rw [← HQK.out] at f1
              have f2 := (I0.row.row qk lqk).2.2
              rw [HO.out.zy qk lqk] at f2
              have f3 := hII.cell hjt
              rw [← HQJ.out] at f3
              clear hXA hII I0 BW
              by_cases hyj : yy k = j
              · have e1 : ((y0 qk : Nat) : Int) = ((qj : Nat) : Int) := by rw [HYJ.out.2 hyj]
                have hkt : (if yy k < j then k + 1 else k) = k := if_neg (by omega)
                have hkt2 : (if yy k < j + 1 then k + 1 else k) = k + 1 := if_pos (by omega)
                rw [e1] at f2
                have hRA := HRA.out
                rw [hkt] at hRA
                have HRB := Lib.hid hRA
                have hbx := hRA.made.box
                have r0 := hbx.c1
                have r1 := hbx.f1
                have hti := Lib.hid (ownsRow_block hRA.made.ints)
                clear hRA HRA hbx e1
                go_wp2_with fail
                go_quiet (fail)
                clear f0 f1 f2 f3
                go_wp2_with (at_builtin; refine wpList_append_own_at _ rfl _ _ 24 rfl BS 3 i0 (.int .i64 0) 1 8 Try.underlying24 HI.out HZ0.out HZ1.out HZ2.out rfl (by decide) _ _ _ rfl (((Chg.drewN (fun _ => False) w6 _).trans (Chg.alloc _ _ _)).own HRB.out.made.ints (fun _ _ h => h)) ⟨w6.heap.size, 0, none⟩ 1 1 [.int .i64 (j : Int)] rfl rfl (cell_one_new _ _ _) ?c2 ?c3 ?c4 ?c5 ?_)
                case c2 => simp [Value.oneCell']
                case c3 => unfold maxLen; omega
                case c4 => omega
                case c5 => first | omega | (simp; omega)
                intro v' w7 hown7 hgrow7 _ hat7
                have hX := HRB.out.opp ((Chg.drewN (fun _ => False) w6 _).trans (Chg.alloc _ _ _)) (by rw [hyj]; omega) (by rw [hyj]; exact hown7) hgrow7 (by rw [World.size_alloc]; exact hat7)
                have hb7 := (HRB.out.made.mid ((Chg.drewN (fun _ => False) w6 _).trans (Chg.alloc _ _ _)) hgrow7 hti.out).2
                obtain ⟨gt, ct, rfl, _⟩ := hX.1.made.ints.val (by omega)
                have HX := Lib.hid hX.1
                have HC7 := Lib.hid (HC6.out.trans hX.2)
                have y0' := hb7.c0
                have y1' := hb7.c1
                have y2' := hb7.f1
                clear hown7 hgrow7 hat7 hX hb7 r0 r1
                go_wp2_with fail
                go_roundw
                case rel => exact ⟨j + 1, _, by omega, by go_num, HC7.out, by rw [hkt2]; exact HX.out⟩
                case measure => simp [intOf]; omega
              · have e1 : (((y0 qk : Nat) : Int) == ((qj : Nat) : Int)) = false := by
                  rw [beq_eq_false_iff_ne]
                  intro e
                  exact hyj (HYJ.out.1 (by omega))
                have hkt : (if yy k < j + 1 then k + 1 else k) = (if yy k < j then k + 1 else k) := by
                  by_cases h : yy k < j
                  · rw [if_pos h, if_pos (by omega)]
                  · rw [if_neg h, if_neg (by omega)]
                go_wp2_with fail
                go_quiet (fail)
                go_wp2_with fail
                go_roundw
                case rel => exact ⟨j + 1, _, by omega, by go_num, HC6.out.trans (Chg.drewN _ _ _), by rw [hkt]; exact HRA.out.still (Chg.drewN _ _ _)⟩
                case measure => simp [intOf]; omega
            · have hjt' : ¬ (j : Int) < (K : Int) := by omega
              obtain rfl : K = j := by omega
              have hkt : (if yy k < K then k + 1 else k) = k + 1 := if_pos lyk
              have hR2 := HR2.out
              rw [hkt] at hR2
              have HR3 := Lib.hid hR2
              have hbx := hR2.made.box
              have y0' := hbx.c0
              have y1' := hbx.f0
              obtain ⟨gk, ck, rfl, _⟩ := hR2.row.val (by omega)
              have hbl := Lib.hid (ownsRow_block hR2.made.out.top)
              have hZb : Hid (∀ c, c < K → 0 ≤ nameZ m0.Z q k c ∧ nameZ m0.Z q k c ≤ 2) := fun c hc => by
                have := HO.out.lat.order.sq.bit (q k) (HQ.out.lt k hlt) (q c) (HQ.out.lt c hc)
                have h2 : m0.Z (q k) (q c) = 0 ∨ m0.Z (q k) (q c) = 1 := this
                unfold nameZ
                omega
              clear hR2 HR2 hbx hj hjt BW
              go_wp2_with (at_builtin; refine wpList_append_own _ rfl _ _ 23 rfl BS 24 i1 (.slice none 0 0) 1 24 Try.underlying23 HJ.out HY0.out HY1.out HY2.out rfl (by decide) _ _ _ rfl (HR3.out.made.out.top.alloc _) ⟨wo.heap.size, 0, none⟩ 1 1 [.slice (some ⟨gk, 0, none⟩) K ck] rfl rfl (cell_one_new _ _ _) ?d2 ?d3 ?d4 ?d5 ?_)
              case d2 => simp [Value.oneCell']
              case d3 => unfold maxLen; omega
              case d4 => omega
              case d5 => first | omega | (simp; omega)
              intro v' w8 hown4 hgrow _
              have hX := HR3.out.last hZb.out hown4 hgrow hK1
              have hb4 := (HR3.out.made.mid (Chg.alloc (fun _ => False) _ _) hgrow hbl.out).2
              obtain ⟨ge, ce, rfl, _⟩ := hX.1.out.topv (by omega)
              have HX := Lib.hid hX.1
              have HC8 := Lib.hid (hC.trans hX.2)
              have z0' := hb4.c0
              have z1' := hb4.f0
              clear hown4 hgrow hb4 hX y0' y1' hZb
              go_wp2_with fail
              go_roundw
              case rel => exact ⟨k + 1, _, _, _, by omega, by go_num, HC8.out, HX.out⟩
              case measure => simp [intOf]; omega
        · have hlt' : ¬ (k : Int) < (K : Int) := by omega
          obtain rfl : K = k := by omega
          have hL := hM.made (by omega) (by omega)
          obtain ⟨gu, cu, rfl, _⟩ := hL.out.topv (by omega)
          obtain ⟨gt, ct, rfl, _⟩ := hL.ints.val (by omega)
          have q0 := hM.box.c0
          have q1 := hM.box.c1
          have p0' := hXR.f0
          have p1' := hXR.f1
          have p2' := hXR.c0
          have p3' := hXR.c1
          have HL2 := Lib.hid hL
          have HX := Lib.hid hXR
          have HBW := Lib.hid BW
          clear hM hL hXR BW hC hk hlt
          go_wp2_with fail
          have hfin := (HX.out.set0 (.slice (some ⟨gu, 0, none⟩) K cu)).set1 (.slice (some ⟨gt, 0, none⟩) K ct)
          have t0 := hfin.c0
          have t1 := hfin.c1
          have hon := set2_only wr (w.heap.size + 1) (.slice (some ⟨gu, 0, none⟩) K cu) (.slice (some ⟨gt, 0, none⟩) K ct)
          refine bodyPost_ret (v := .agg #[.slice (some ⟨gu, 0, none⟩) K cu, .slice (some ⟨gt, 0, none⟩) K ct]) (by simp [results, Try.results116, go_sem, t0, t1]) rfl ⟨HBW.out.trans (hon.below fun j hj => by have hj' : j = w.heap.size + 1 := hj; omega), .inr ⟨rfl, _, _, rv, rfl, ((HL2.out.chg (Chg.of_only hon) fun j hj => ?_).base (by omega))⟩⟩
          have hj' : j = w.heap.size + 1 := hj
          omega

theorem spec_PartOf {w : World} {B : Nat} {ua : Option Addr} {l : Lay} {m : Mx} {na : Option Addr} {g o k nc : Nat} {z : Nat → Int} {x : Int} (h : LogAt w B ua l m na g o k z) :
    Calls Try.prog 116 #[.agg #[.slice ua m.n l.cap, .slice na k nc], .int .i64 x] w (MadeLog w (memK x.toNat 12) (nameZ m.Z (memF x.toNat 12)) (partY (fun a => (z a).toNat) (memF x.toNat 12) (memB x.toNat 12)) (subV m k z x)) := by
  cases hs : subV m k z x with
  | false => exact spec_PartOf_no h hs
  | true =>
    have hs' := hs
    unfold subV at hs'
    rw [Bool.and_eq_true, Bool.and_eq_true] at hs'
    obtain ⟨⟨hl, hi⟩, hc⟩ := hs'
    obtain ⟨y, o', hO⟩ := (logicB_is hl).ortho
    have hkn : k = m.n := (logicB_is hl).pair.len
    subst hkn
    obtain ⟨rfl, _, _⟩ := h.row.row 0 hO.lat.order.pos
    obtain ⟨rfl, _, _⟩ := h.mat.top 0 hO.lat.order.pos
    obtain ⟨i1, i2⟩ : 1 ≤ x ∧ x < (2 ^ m.n : Nat) := of_decide_eq_true hi
    obtain ⟨s, rfl⟩ := Int.eq_ofNat_of_zero_le (show 0 ≤ x by omega)
    have j1 : 1 ≤ s := by omega
    have j2 : s < 2 ^ m.n := by omega
    have hcl : Closed m y s := closedB_is (by
      rw [← closedB_congr fun a ha => hO.toNat ha]; exact hc)
    have hE : Emb m.n (memK s 12) s (memF s 12) (memB s 12) := Emb.down hO.lat.order.top j2
    have e0 : ((s : Nat) : Int).toNat = s := by simp
    show Calls _ _ _ _ (MadeLog w (memK ((s : Nat) : Int).toNat 12) _ _ _)
    rw [e0]
    refine (spec_PartOf_in h hO j1 j2 hcl).mono fun e w' hm => hm.congr rfl (fun _ r hr c hc => rfl) (fun _ c hc => ?_)
    show memB s 12 (y (memF s 12 c)) = memB s 12 ((z (memF s 12 c)).toNat)
    rw [hO.toNat (hE.lt c hc)]
end Go.Proofs.Ytojcgmgponnlpaa
