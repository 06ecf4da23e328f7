import Derived.Test.YtojcgmgponnlpaaZDa
import Derived.Test.YtojcgmgponnlpaaZOa
import Derived.Maps.AppendAt
import Derived.Deep.RegionLaw
namespace Go.Proofs.Ytojcgmgponnlpaa
open Go.RowKit Go.Deep

theorem step_append_own {P : Program} {ops : Array Oper} {o : Oper} {a : Act} {w : World} {K : Act → World → Prop} {Q : Exit → Act → World → Prop} {E : Prop}
    (hg : o.guard = none) (s x : Operand) (t : TypeId) (hop : o.op = Op.call { callee := Callee.builtin Builtin.append, args := #[s, x], argTypes := #[t, t] })
    (base : Nat) (e : TypeId) (i : TypeInfo) (z : Value) (size bytes : Nat) (ht : P.underlying t = some (.slice e)) (hi : P.info? e = some i) (hz : i.zero = some z)
    (hsize : i.size = size) (hby : i.bytes = bytes) (hzs : z.cells.size = size) (hsz : 0 < size)
    (v : Value) (n : Nat) (xs : List Value) (hs : a.eval s = v) (hown : w.ownsRow base e size v n xs)
    (ad : Addr) (m c : Nat) (news : List Value) (hx : a.eval x = .slice (some ad) m c) (hl : news.length = m * size) (hnews : ∀ j u, news[j]? = some u → w.cell? (ad.add j) = some u) (h1 : ∀ u ∈ news, u.oneCell' = true)
    (h63 : n + m ≤ maxLen) (hbytes : (n + m) * bytes ≤ 140737488355328) (hbase : base ≤ w.heap.size)
    (hK : ∀ v' w', w'.ownsRow base e size v' (n + m) (xs ++ news) → w.grownBy w' v.ownBlock → (v'.ownBlock = v.ownBlock ∨ v'.ownBlock = some w.heap.size) → K (a.put o.dst v') w') :
    if Region.wanted o (yielded ops a.tmps) = true then Oper.wp P o a w K Q else E := by
  have hw : Region.wanted o (yielded ops a.tmps) = true := by simp [Region.wanted, hg]
  rw [if_pos hw]
  obtain ⟨v', w', hr, h2, h3, _, h5⟩ := run_append_own_at (P := P) w base t o.type e i z size bytes ht hi hz hsize hby hzs hsz v n xs hown ad m c news hl hnews h1 h63 hbytes hbase
  unfold Oper.wp execOp
  simp only [hop, resolve, invoke, builtin, Sem.run_bind, Sem.run_pure, Result.andThen_ok, List.map_toArray, List.map_cons, List.map_nil, hs, hx, hr]
  exact hK v' w' h2 h3 h5

/-- From one world to another one only the blocks of S have turned, and new ones have come. -/
structure Chg (S : Nat → Prop) (w w' : World) : Prop where
  os : w'.os = w.os
  tape : w'.tape = w.tape
  output : w'.output = w.output
  size : w.heap.size ≤ w'.heap.size
  block : ∀ j, j < w.heap.size → ¬ S j → w'.heap[j]? = w.heap[j]?
theorem Chg.refl (S : Nat → Prop) (w : World) : Chg S w w := ⟨rfl, rfl, rfl, Nat.le_refl _, fun _ _ _ => rfl⟩
theorem Chg.trans {S : Nat → Prop} {a b c : World} (h : Chg S a b) (k : Chg S b c) : Chg S a c :=
  ⟨k.os.trans h.os, k.tape.trans h.tape, k.output.trans h.output, Nat.le_trans h.size k.size, fun j hj hs => (k.block j (Nat.lt_of_lt_of_le hj h.size) hs).trans (h.block j hj hs)⟩
theorem Chg.mono {S T : Nat → Prop} {a b : World} (h : Chg S a b) (hs : ∀ j, S j → T j) : Chg T a b := ⟨h.os, h.tape, h.output, h.size, fun j hj ht => h.block j hj fun e => ht (hs j e)⟩
theorem Chg.of_only {S : Nat → Prop} {a b : World} (h : OnlyIn S a b) : Chg S a b := ⟨h.os, h.tape, h.output, Nat.le_of_eq h.size.symm, fun j _ hs => h.block j hs⟩
theorem Chg.of_below {S : Nat → Prop} {B : Nat} {a b : World} (h : Below B a b) (hB : ∀ j, j < a.heap.size → B ≤ j → S j) : Chg S a b :=
  ⟨h.os, h.tape, h.output, h.size, fun j hj hs => h.block j (by
    rcases Nat.lt_or_ge j B with e | e
    · exact e
    · exact absurd (hB j hj e) hs)⟩
theorem Chg.of_grown {S : Nat → Prop} {r : Option Nat} {a b : World} (h : a.grownBy b r) (hr : ∀ k, r = some k → S k) : Chg S a b :=
  ⟨h.os, h.tape, h.output, h.size, fun j hj hs => h.block j hj fun e => hs (hr j e.symm)⟩
theorem Chg.alloc (S : Nat → Prop) (w : World) (o : Obj) : Chg S w (w.alloc o) := Chg.of_below ((Below.refl w.heap.size w).alloc (Nat.le_refl _) o) fun j hj hB => absurd hB (by omega)
theorem Chg.drew (S : Nat → Prop) (w : World) : Chg S w w.drew := ⟨rfl, rfl, rfl, Nat.le_refl _, fun _ _ _ => rfl⟩
theorem Chg.drewN (S : Nat → Prop) (w : World) (n : Nat) : Chg S w (w.drewN n) := ⟨rfl, rfl, rfl, Nat.le_refl _, fun _ _ _ => rfl⟩
theorem Chg.set {S : Nat → Prop} {w : World} {b i : Nat} (hs : S b) (x : Value) : Chg S w (w.setCell ⟨b, i, none⟩ x) := Chg.of_only ((OnlyIn.refl S w).set hs i x)
theorem Chg.own {S : Nat → Prop} {w w' : World} {base : Nat} {e : TypeId} {size n : Nat} {v : Value} {xs : List Value} (h : Chg S w w') (ho : w.ownsRow base e size v n xs) (hs : ∀ g, v.ownBlock = some g → ¬ S g) : w'.ownsRow base e size v n xs := by
  refine ⟨ho.1, ?_⟩
  rcases ho.2 with ⟨h1, h2⟩ | ⟨g, cap, cur, rfl, hb, hh, r⟩
  · exact .inl ⟨h1, h2⟩
  · exact .inr ⟨g, cap, cur, rfl, hb, (h.block g (ho.lt g rfl).2 (hs g rfl)).trans hh, r⟩
theorem Chg.two {S : Nat → Prop} {w w' : World} {p : Nat} {u v : Value} (h : Chg S w w') (ht : TwoAt w p u v) (hs : ¬ S p) : TwoAt w' p u v := by
  have hp : p < w.heap.size := World.block_lt_of_cell? w ⟨p, 0, none⟩ ht.c0
  have hb := h.block p hp hs
  exact ⟨(World.cell?_of_block (a := ⟨p, 0, none⟩) hb).trans ht.c0, (World.cell?_of_block (a := ⟨p, 1, none⟩) hb).trans ht.c1, (World.frozen?_of_block (a := ⟨p, 0, none⟩) hb).trans ht.f0, (World.frozen?_of_block (a := ⟨p, 1, none⟩) hb).trans ht.f1⟩
theorem Chg.out {S : Nat → Prop} {w w' : World} {base : Nat} {v : Value} {k N : Nat} {rv : Nat → Value} {Z : Nat → Nat → Int} (h : Chg S w w') (ho : Out w base v k N rv Z) (h1 : ∀ g, v.ownBlock = some g → ¬ S g) (h2 : ∀ r, r < k → ∀ g, (rv r).ownBlock = some g → ¬ S g) : Out w' base v k N rv Z :=
  ⟨h.own ho.top h1, fun r hr => h.own (ho.row r hr) (h2 r hr), ho.apart, ho.bit⟩
theorem Chg.below {S : Nat → Prop} {B : Nat} {w w' : World} (h : Chg S w w') (hB : B ≤ w.heap.size) (hs : ∀ j, S j → B ≤ j) : Below B w w' :=
  ⟨h.os, h.tape, h.output, h.size, fun j hj => h.block j (by omega) fun e => by have := hs j e; omega⟩

/-- A list of the call's own: its value, of so many numbers. -/
def IntsAt (w : World) (base : Nat) (t : Value) (k : Nat) (y : Nat → Int) : Prop := w.ownsRow base 3 1 t k ((List.range k).map fun c => .int .i64 (y c))
theorem IntsAt.val {w : World} {base : Nat} {t : Value} {k : Nat} {y : Nat → Int} (h : IntsAt w base t k y) (hk : 0 < k) : ∃ g cap, t = .slice (some ⟨g, 0, none⟩) k cap ∧ base ≤ g ∧ g < w.heap.size ∧ k ≤ cap := by
  rcases h.2 with ⟨_, h0⟩ | ⟨g, cap, cur, rfl, hb, hh, hc, _⟩
  · omega
  · exact ⟨g, cap, rfl, hb, (h.lt g rfl).2, hc⟩
theorem IntsAt.cell {w : World} {base g cap : Nat} {k : Nat} {y : Nat → Int} (h : IntsAt w base (.slice (some ⟨g, 0, none⟩) k cap) k y) {c : Nat} (hc : c < k) : w.cell? ⟨g, c, none⟩ = some (.int .i64 (y c)) := by
  have := World.ownsRow.cellAt h c (by omega)
  rw [this]
  simp [hc]
theorem IntsAt.frozen {w : World} {base g cap : Nat} {k : Nat} {y : Nat → Int} (h : IntsAt w base (.slice (some ⟨g, 0, none⟩) k cap) k y) (c : Nat) : w.frozen? ⟨g, c, none⟩ = false := World.ownsRow.frozenAt h c
theorem IntsAt.step {w : World} {base : Nat} {t : Value} {k : Nat} {y : Nat → Int} {x : Int} (h : w.ownsRow base 3 1 t (k + 1) ((List.range k).map (fun c => .int .i64 (y c)) ++ [.int .i64 x])) : IntsAt w base t (k + 1) (fun c => if c = k then x else y c) := by
  unfold IntsAt
  have e1 : (List.range (k + 1)).map (fun c => Value.int .i64 (if c = k then x else y c)) = (List.range k).map (fun c => .int .i64 (y c)) ++ [.int .i64 x] := by
    rw [List.range_succ, List.map_append]
    congr 1
    · exact map_congr_range fun i hi => by rw [if_neg (by omega)]
    · simp
  rw [e1]
  exact h
theorem IntsAt.store {w : World} {base g cap k : Nat} {y : Nat → Int} (h : IntsAt w base (.slice (some ⟨g, 0, none⟩) k cap) k y) (c : Nat) (x : Int) : IntsAt (w.setCell ⟨g, c, none⟩ (.int .i64 x)) base (.slice (some ⟨g, 0, none⟩) k cap) k (fun c' => if c' = c then x else y c') := by
  have h1 := (World.ownsRow.stored h c (.int .i64 x)).1
  rw [map_set] at h1
  unfold IntsAt
  rw [map_congr_range (g := fun c' => .int .i64 (if c' = c then x else y c'))] at h1
  · exact h1
  · intro i _
    show (if i = c then Value.int .i64 x else .int .i64 (y i)) = _
    by_cases e : i = c
    · subst e; simp
    · simp [e]
theorem IntsAt.nil (w : World) (base : Nat) (y : Nat → Int) : IntsAt w base (.slice none 0 0) 0 y := World.ownsRow_nil w base _ 1
theorem Chg.ints {S : Nat → Prop} {w w' : World} {base : Nat} {t : Value} {k : Nat} {y : Nat → Int} (h : Chg S w w') (ho : IntsAt w base t k y) (hs : ∀ g, t.ownBlock = some g → ¬ S g) : IntsAt w' base t k y := h.own ho hs

/-- Rows and opposites of the call's own: so many rows of so many numbers, each opposite one of the answers. -/
structure LogO (w : World) (base : Nat) (u t : Value) (n : Nat) (rv : Nat → Value) (Z : Nat → Nat → Int) (y : Nat → Int) : Prop where
  pos : 1 ≤ n
  hi : n ≤ 12
  out : Out w base u n n rv Z
  ints : IntsAt w base t n y
  sep : ∀ r, r < n → (rv r).ownBlock ≠ t.ownBlock
  rng : ∀ c, c < n → 0 ≤ y c ∧ y c < (n : Int)
theorem LogO.base {w : World} {base base' : Nat} {u t : Value} {n : Nat} {rv : Nat → Value} {Z : Nat → Nat → Int} {y : Nat → Int} (h : LogO w base u t n rv Z y) (hb : base' ≤ base) : LogO w base' u t n rv Z y :=
  ⟨h.pos, h.hi, h.out.base hb, ownsRow_base h.ints hb, h.sep, h.rng⟩
theorem LogO.below {w w' : World} {base B : Nat} {u t : Value} {n : Nat} {rv : Nat → Value} {Z : Nat → Nat → Int} {y : Nat → Int} (h : LogO w base u t n rv Z y) (hb : Below B w w') (hB : w.heap.size ≤ B) : LogO w' base u t n rv Z y :=
  ⟨h.pos, h.hi, h.out.below hb hB, ownsRow_below h.ints hb hB, h.sep, h.rng⟩
theorem LogO.chg {S : Nat → Prop} {w w' : World} {base : Nat} {u t : Value} {n : Nat} {rv : Nat → Value} {Z : Nat → Nat → Int} {y : Nat → Int} (h : LogO w base u t n rv Z y) (hc : Chg S w w') (hs : ∀ j, S j → j < base) : LogO w' base u t n rv Z y :=
  ⟨h.pos, h.hi, hc.out h.out (fun g hg e => by have := ownsRow_block h.out.top g hg; have := hs g e; omega) (fun r hr g hg e => by have := ownsRow_block (h.out.row r hr) g hg; have := hs g e; omega),
   hc.ints h.ints (fun g hg e => by have := ownsRow_block h.ints g hg; have := hs g e; omega), h.sep, h.rng⟩
/-- How it reads. -/
theorem LogO.at_ {w : World} {base : Nat} {u t : Value} {n : Nat} {rv : Nat → Value} {Z : Nat → Nat → Int} {y : Nat → Int} (h : LogO w base u t n rv Z y) :
    ∃ (ua : Option Addr) (l : Lay) (g nc : Nat), u = .slice ua n l.cap ∧ t = .slice (some ⟨g, 0, none⟩) n nc ∧ LogAt w w.heap.size ua l ⟨n, fun _ => n, Z⟩ (some ⟨g, 0, none⟩) g 0 n y ∧ LayFrom base l ⟨n, fun _ => n, Z⟩ ∧ base ≤ g := by
  have hp := h.pos
  have hh := h.hi
  obtain ⟨ua, l, rfl, hm, hf⟩ := h.out.mat (by omega)
  obtain ⟨g, nc, rfl, hg, hlt, _⟩ := h.ints.val (by omega)
  exact ⟨ua, l, g, nc, rfl, rfl, ⟨hm, ⟨fun c hc => ⟨rfl, hlt, by rw [Nat.zero_add]; exact h.ints.cell hc⟩⟩, by show n ≤ _; omega, fun _ _ => by show n ≤ _; omega, by omega, Nat.le_refl _⟩, hf, hg⟩
/-- What makes a logic hands back. -/
def MadeL (n : Nat) (w : World) (e : Ending) (w' : World) : Prop :=
  ∃ (u t : Value) (rv : Nat → Value) (Z : Nat → Nat → Int) (y : Nat → Int), e = .returned (.agg #[u, t]) ∧ LogO w' w.heap.size u t n rv Z y ∧ Below w.heap.size w w'
end Go.Proofs.Ytojcgmgponnlpaa
namespace Go.Proofs.Ytojcgmgponnlpaa
open Go.RowKit Go.Deep

structure MakeAt (wr : World) (p base : Nat) (u t : Value) (k kt N : Nat) (rv : Nat → Value) (Z : Nat → Nat → Int) (y : Nat → Int) : Prop where
  pb : p < base
  box : TwoAt wr p u t
  out : Out wr base u k N rv Z
  ints : IntsAt wr base t kt y
  sep : ∀ r, r < k → (rv r).ownBlock ≠ t.ownBlock ∨ (rv r).ownBlock = none
  rng : ∀ c, c < kt → 0 ≤ y c ∧ y c < (N : Int)
theorem MakeAt.start {wr : World} {p base N : Nat} (hp : p < base) (hb : TwoAt wr p (.slice none 0 0) (.slice none 0 0)) : MakeAt wr p base (.slice none 0 0) (.slice none 0 0) 0 0 N (fun _ => .slice none 0 0) (fun _ _ => 0) (fun _ => 0) :=
  ⟨hp, hb, ⟨World.ownsRow_nil _ _ _ 1, fun _ hr => absurd hr (Nat.not_lt_zero _), fun _ _ hr => absurd hr (Nat.not_lt_zero _), fun _ _ hr => absurd hr (Nat.not_lt_zero _)⟩, IntsAt.nil _ _ _, fun _ hr => absurd hr (Nat.not_lt_zero _), fun _ hc => absurd hc (Nat.not_lt_zero _)⟩
theorem MakeAt.lt {wr : World} {p base : Nat} {u t : Value} {k kt N : Nat} {rv : Nat → Value} {Z : Nat → Nat → Int} {y : Nat → Int} (h : MakeAt wr p base u t k kt N rv Z y) : p < wr.heap.size := World.block_lt_of_cell? wr ⟨p, 0, none⟩ h.box.c0
theorem MakeAt.chg {S : Nat → Prop} {wr w' : World} {p base : Nat} {u t : Value} {k kt N : Nat} {rv : Nat → Value} {Z : Nat → Nat → Int} {y : Nat → Int} (h : MakeAt wr p base u t k kt N rv Z y) (hc : Chg S wr w') (hs : ∀ j, S j → j < p ∨ wr.heap.size ≤ j) : MakeAt w' p base u t k kt N rv Z y := by
  have hp := h.pb
  have hl := h.lt
  have no : ∀ (g : Nat), base ≤ g → g < wr.heap.size → ¬ S g := fun g h1 h2 e => by
    rcases hs g e with h3 | h3
    · omega
    · omega
  refine ⟨hp, hc.two h.box (fun e => by
    rcases hs p e with h3 | h3
    · omega
    · omega), hc.out h.out (fun g hg => no g (ownsRow_block h.out.top g hg) (own_lt h.out.top g hg)) (fun r hr g hg => no g (ownsRow_block (h.out.row r hr) g hg) (own_lt (h.out.row r hr) g hg)), hc.ints h.ints (fun g hg => no g (ownsRow_block h.ints g hg) (own_lt h.ints g hg)), h.sep, h.rng⟩
theorem MakeAt.below {wr w' : World} {p base : Nat} {u t : Value} {k kt N : Nat} {rv : Nat → Value} {Z : Nat → Nat → Int} {y : Nat → Int} (h : MakeAt wr p base u t k kt N rv Z y) (hb : Below wr.heap.size wr w') : MakeAt w' p base u t k kt N rv Z y :=
  h.chg (Chg.of_below (S := fun _ => False) hb fun j hj hB => absurd hj (by omega)) fun _ e => e.elim
theorem MakeAt.mid {wr wa w4 : World} {p base : Nat} {u t : Value} {k kt N : Nat} {rv : Nat → Value} {Z : Nat → Nat → Int} {y : Nat → Int} {r : Option Nat} (h : MakeAt wr p base u t k kt N rv Z y) (ha : Chg (fun _ => False) wr wa) (hg : wa.grownBy w4 r) (hr : ∀ g, r = some g → base ≤ g) : Chg (fun j => base ≤ j) wr w4 ∧ TwoAt w4 p u t := by
  have hp := h.pb
  have hc : Chg (fun j => base ≤ j) wr w4 := (ha.mono fun _ e => e.elim).trans (Chg.of_grown hg hr)
  exact ⟨hc, hc.two h.box (by show ¬ base ≤ p; omega)⟩
/-- One opposite more. -/
theorem MakeAt.more {wr wa w4 : World} {p base : Nat} {u t v' : Value} {k kt N : Nat} {rv : Nat → Value} {Z : Nat → Nat → Int} {y : Nat → Int} {x : Int} (h : MakeAt wr p base u t k kt N rv Z y) (ha : Chg (fun _ => False) wr wa)
    (hx : 0 ≤ x ∧ x < (N : Int)) (hown : w4.ownsRow base 3 1 v' (kt + 1) ((List.range kt).map (fun c => .int .i64 (y c)) ++ [.int .i64 x])) (hg : wa.grownBy w4 t.ownBlock) (hat : v'.ownBlock = t.ownBlock ∨ v'.ownBlock = some wa.heap.size) :
    MakeAt (w4.setCell ⟨p, 1, none⟩ v') p base u v' k (kt + 1) N rv Z (fun c => if c = kt then x else y c) ∧ Chg (fun j => j = p ∨ base ≤ j) wr (w4.setCell ⟨p, 1, none⟩ v') := by
  have hp := h.pb
  have hl := h.lt
  obtain ⟨hc, hb4⟩ := h.mid ha hg (ownsRow_block h.ints)
  have hs := Chg.set (S := fun j => j = p) (w := w4) (i := 1) rfl v'
  have hb := fun {e : TypeId} {n : Nat} {v : Value} {xs : List Value} (ho : w4.ownsRow base e 1 v n xs) => hs.own ho fun g hg e => by
    have h1 := ownsRow_block ho g hg
    have e' : g = p := e
    omega
  have ho1 : ∀ r, r < k → wa.ownsRow base 3 1 (rv r) N ((List.range N).map fun c => .int .i64 (Z r c)) := fun r hr => ha.own (h.out.row r hr) fun _ _ e => e
  have hot : wa.ownsRow base 24 1 u k ((List.range k).map rv) := ha.own h.out.top fun _ _ e => e
  have hit : wa.ownsRow base 3 1 t kt ((List.range kt).map fun c => .int .i64 (y c)) := ha.own h.ints fun _ _ e => e
  refine ⟨⟨hp, hb4.set1 v', ⟨hb (owns_not hot hg (owns_apart hot hit (by decide))), fun r hr => hb (owns_not (ho1 r hr) hg ((h.sep r hr).symm)), h.out.apart, h.out.bit⟩, hb (IntsAt.step hown), fun r hr => ?_, fun c hc => ?_⟩, (hc.mono fun j hj => .inr hj).trans (hs.mono fun j hj => .inl hj)⟩
  · rcases hat with e | e
    · rw [e]; exact h.sep r hr
    · left
      rw [e]
      intro e2
      have := own_lt (ho1 r hr) _ e2
      omega
  · by_cases e : c = kt
    · rw [if_pos e]; exact hx
    · rw [if_neg e]; exact h.rng c (by omega)
/-- One row more, made since. -/
theorem MakeAt.row {wo wi w4 : World} {p base : Nat} {u t v' u5 : Value} {k kt N : Nat} {rv : Nat → Value} {Z : Nat → Nat → Int} {y : Nat → Int} {z : Nat → Int} {o : Obj} (h : MakeAt wo p base u t k kt N rv Z y) (hbs : base ≤ wo.heap.size) (hi : Below wo.heap.size wo wi)
    (hu : IntsAt wi wo.heap.size u5 N z) (hz : ∀ c, c < N → 0 ≤ z c ∧ z c ≤ 2) (hown : w4.ownsRow base 24 1 v' (k + 1) ((List.range k).map rv ++ [u5])) (hg : (wi.alloc o).grownBy w4 u.ownBlock) (hN : 0 < N) :
    MakeAt (w4.setCell ⟨p, 0, none⟩ v') p base v' t (k + 1) kt N (fun r => if r = k then u5 else rv r) (fun r c => if r = k then z c else Z r c) y ∧ Chg (fun j => j = p ∨ base ≤ j) wo (w4.setCell ⟨p, 0, none⟩ v') := by
  have hp := h.pb
  have hl := h.lt
  have hm := h.below hi
  obtain ⟨gk, ck, rfl, hgk, hgl, _⟩ := hu.val hN
  have hne : ∀ r, r < k → (rv r).ownBlock ≠ (Value.slice (some ⟨gk, 0, none⟩) N ck).ownBlock := fun r hr e => by
    have h1 := own_lt (h.out.row r hr) gk (by rw [e]; rfl)
    omega
  have hO := hm.out.append (ownsRow_base hu hbs) hz hne hown hg
  have ha := Chg.alloc (fun _ => False) wi o
  obtain ⟨hc, hb4⟩ := hm.mid ha hg (ownsRow_block hm.out.top)
  have hit := ha.own hm.ints fun _ _ e => e
  have hot := ha.own hm.out.top fun _ _ e => e
  have hi4 : w4.ownsRow base 3 1 t kt ((List.range kt).map fun c => .int .i64 (y c)) := owns_not hit hg (owns_apart hit hot (by decide))
  have hs := Chg.set (S := fun j => j = p) (w := w4) (i := 0) rfl v'
  have nob : ∀ {e : TypeId} {n : Nat} {v : Value} {xs : List Value}, w4.ownsRow base e 1 v n xs → ∀ g, v.ownBlock = some g → ¬ (fun j => j = p) g := fun ho g hg e => by
    have h1 := ownsRow_block ho g hg
    have e' : g = p := e
    omega
  refine ⟨⟨hp, hb4.set0 v', hs.out hO (nob hO.top) (fun r hr => nob (hO.row r hr)), hs.own hi4 (nob hi4), fun r hr => ?_, h.rng⟩, ((Chg.of_below (S := fun j => j = p ∨ base ≤ j) hi (fun j hj hB => absurd hj (by omega))).trans (hc.mono fun j hj => .inr hj)).trans (hs.mono fun j hj => .inl hj)⟩
  by_cases e : r = k
  · simp only [if_pos e]
    left
    intro e2
    have h1 := own_lt h.ints gk (by rw [← e2]; rfl)
    omega
  · simp only [if_neg e]
    exact h.sep r (by omega)
/-- Where a square of numbers lies: one of them. -/
theorem LogAt.one {w : World} {B : Nat} {ua : Option Addr} {l : Lay} {n : Nat} {Z : Nat → Nat → Int} {na : Option Addr} {g o k : Nat} {z : Nat → Int} (h : LogAt w B ua l ⟨n, fun _ => n, Z⟩ na g o k z) {r c : Nat} (hr : r < n) (hc : c < n) :
    w.cell? ⟨l.b, l.o + r, none⟩ = some (.slice (some ⟨l.G r, l.O r, none⟩) n (l.C r)) ∧ w.cell? ⟨l.G r, l.O r + c, none⟩ = some (.int .i64 (Z r c)) := by
  obtain ⟨_, _, h1⟩ := h.mat.top r hr
  obtain ⟨h2, _, h3⟩ := h.mat.row r hr c hc
  rw [h2] at h1
  exact ⟨h1, h3⟩
/-- All rows and opposites are there. -/
theorem MakeAt.made {wr : World} {p base : Nat} {u t : Value} {N : Nat} {rv : Nat → Value} {Z : Nat → Nat → Int} {y : Nat → Int} (h : MakeAt wr p base u t N N N rv Z y) (h1 : 1 ≤ N) (h2 : N ≤ 12) : LogO wr base u t N rv Z y :=
  ⟨h1, h2, h.out, h.ints, fun r hr => (h.sep r hr).elim id fun e => by
    obtain ⟨g, cap, e1, _⟩ := h.out.bigN hr (by omega)
    rw [e1] at e
    exact absurd e (by simp [Value.ownBlock]), h.rng⟩
end Go.Proofs.Ytojcgmgponnlpaa
