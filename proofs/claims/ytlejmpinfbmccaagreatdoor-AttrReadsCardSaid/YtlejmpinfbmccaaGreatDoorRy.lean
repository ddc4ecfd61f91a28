/- The document's reading of attributes: words that are marked. -/
import Derived.Test.YtlejmpinfbmccaaGreatDoorRx
set_option linter.unusedSimpArgs false
set_option linter.unusedVariables false
set_option linter.unusedSimpArgs false
set_option linter.unusedVariables false
namespace Go.Proofs.YtlejmpinfbmccaaGreatDoor
open Go.RowKit SumMath WordMath
theorem Row.at0 {w : World} {A : Option Addr} {l : List Nat} (h : Row w A l) (h0 : 1 < l.length) : ∃ b o, A = some ⟨b, o, none⟩ ∧ b < w.heap.size ∧ ∀ k, k < l.length → w.cell? ⟨b, o + k, none⟩ = some (.int .u64 ((l.getD k 0 : Nat) : Int)) := by
  have hc : Cel w A (wv l) := fun _ => by
    obtain ⟨ad, e, hl, hc⟩ := h (by omega)
    refine ⟨ad, e, hl, fun j u hu => ?_⟩
    have hj := (List.getElem?_eq_some_iff.1 hu).1
    rw [wv_length] at hj
    rw [wv_get l j hj] at hu
    injection hu with hu
    rw [← hu]
    exact hc j hj
  obtain ⟨b, o, e, hl, hk⟩ := hc.at0 (by rw [wv_length]; omega)
  exact ⟨b, o, e, hl, fun k hk' => hk k _ (wv_get l k hk')⟩
theorem run_iaddr {a : Act} {o : Oper} {u : World} {x : Operand} (i : Nat) (ho : o.op = .indexAddr 36 x (.const (.int .i64 i))) (g off n c : Nat) (h1 : a.eval x = .slice (some ⟨g, off, none⟩) n c) (hi : i < n) : (execOp a.eval o).run Tryz.prog u = .ok (.value (.pointer (some ⟨g, off + i, none⟩))) u := by
  have hi2 : (i : Int) < (n : Int) := by omega
  have e0 : a.eval (.const (.int .i64 (i : Nat))) = .int .i64 (i : Nat) := rfl
  unfold execOp
  rw [ho]
  simp only [h1, e0]
  simp [go_sem, hi2]
theorem run_load64 {a : Act} {o : Oper} {u : World} {x : Operand} (ho : o.op = .load 49 x) (p : Addr) (v : Value) (h1 : a.eval x = .pointer (some p)) (hc : u.cell? p = some v) : (execOp a.eval o).run Tryz.prog u = .ok (.value v) u := by
  unfold execOp
  rw [ho]
  simp only [h1]
  simp [go_sem, hc]
theorem run_allocT {a : Act} {o : Oper} {u : World} (ho : o.op = .alloc 28) : (execOp a.eval o).run Tryz.prog u = .ok (.value (.pointer (some ⟨u.heap.size, 0, none⟩))) (u.alloc (.cells zA 28)) := by
  unfold execOp
  rw [ho]
  kernel_rfl
/-- A list, wherever its own rows lie. -/
abbrev Sp4.aco (x : Ac) : Sp4 := .prop (fun v w => ∃ p, v = x.v p ∧ LiesO w x p) (fun _ _ _ h hb => by
  obtain ⟨p, e, hl⟩ := h
  exact ⟨p, e, hl.below hb⟩)
/-- Attributes without values, wherever their lists' own rows lie. -/
abbrev Sp4.ato (x : At) : Sp4 := .prop (fun v w => ∃ p, v = At.v x p ∧ LiesO w x.ac p.p ∧ LiesO w x.df p.q ∧ p.X = none ∧ p.n = 0) (fun _ _ _ h hb => by
  obtain ⟨p, e, h1, h2, h3⟩ := h
  exact ⟨p, e, h1.below hb, h2.below hb, h3⟩)
theorem R4.at {S : List Sp4} {i : Nat} {v : Value} {u : World} (sp : Sp4) (hk : S.getD i .any = sp) (h : R4 S i v u) : sp.ok v u := by
  unfold R4 at h
  rwa [hk] at h
/-- A region that draws its order, and ends in the store of a whole struct. -/
theorem wp_region_storeV {P : Program} {id : Nat} (R : Nat → Value → World → Prop) (n j1 j2 : Nat) (p v : Tmp) (ty : TypeId) {l : List Oper} {z : Oper} {a0 : Act} {w : World} {Q : Exit → Act → World → Prop} (hlz : l = l.take n ++ [z])
    (ho : z.op = .store ty (.tmp p) (.tmp v)) (hj1 : j1 < n) (hj2 : j2 < n) (hp : (l[j1]?).bind (·.dst) = some p) (hv : (l[j2]?).bind (·.dst) = some v)
    (hm : P.follows .mixedOrders = true) (hB : relC a0.tmps.size 0 l = true) (hcov : coverB l n = true) (hn : (l.take n).length = n) (hD : (l.take n).all (fun o => o.dst.isSome && o.guard.isNone) = true) (hz : z.dst = none) (hzg : z.guard = none)
    (stable : ∀ i v w' w'', R i v w' → On w' w'' → R i v w'') (hS : Steps P On R l a0 w 0 (l.take n))
    (hl : ∀ (vs : Nat → Value) u, On w u → (∀ i, i < n → R i (vs i) u) → ∃ g C C0 t, vs j1 = .pointer (some ⟨g, 0, none⟩) ∧ vs j2 = .agg C ∧ u.heap[g]? = some (.cells C0 t (0, 0)) ∧ (P.info? ty).map (·.size) = some C.size ∧ C0.size = C.size ∧ C.all (·.oneCell') = true ∧ Q .normal (putsFrom l 0 vs a0) (u.setRow g C)) :
    (Code.region id l.toArray true).wp P Q a0 w := by
  refine wp_region_lastV R n hlz hm hB hcov hn hD hz hzg stable hS fun vs u hb hR K Q' hK => ?_
  obtain ⟨g, C, C0, t, h1, h2, h3, h4, h5, h6, h7⟩ := hl vs u hb hR
  have ev : ∀ j d, (l[j]?).bind (·.dst) = some d → (putsFrom l 0 vs a0).eval (.tmp d) = vs j := by
    intro j d hd
    obtain ⟨oj, hoj, hdd⟩ := Option.bind_eq_some_iff.1 hd
    have hat := putsFrom_atC (k := 0) vs a0 hB (Nat.le_refl _) j oj d hoj hdd
    rw [Nat.zero_add] at hat
    show (putsFrom l 0 vs a0).tmps.getD d undef = vs j
    rw [Array.getD_eq_getD_getElem?, hat]
    rfl
  refine wp_store_row ty (.tmp p) (.tmp v) ho g C ((ev j1 p hp).trans h1) ((ev j2 v hv).trans h2) t C0 h3 h4 h5 h6 ?_
  rw [hz]
  exact hK _ h7
section
variable {S : List Sp4} {l : List Oper} {a0 a : Act} {w0 u : World} {k : Nat} {o : Oper}
/-- An operation that leaves what is said, and may make memory. -/
theorem st4_gen (sp : Sp4) (hk : S.getD k .any = sp) (hg : Go4 S l o)
    (step : ∀ a u, On w0 u → Agree l a0 a → Deps S l o a u → ∃ v u', (execOp a.eval o).run Tryz.prog u = .ok (.value v) u' ∧ sp.ok v u' ∧ On u u') :
    StepAt Tryz.prog On (R4 S) l a0 w0 k o := by
  intro a u hT hA hd
  obtain ⟨v, u', h1, h2, h3⟩ := step a u hT hA fun j dj hj hm sp hv => dep4 hd j dj hj hm sp hv
  exact .inl ⟨hg.wanted hd, StepOK.run v h1 (by unfold R4; rw [hk]; exact h2) h3⟩
end
/-- Attributes in a block of their own whose values' rows came behind w0: what was there has not turned, but for that block. -/
structure AtK (w0 w : World) (g : Nat) (x : At) (p : ALie) : Prop where
  bt : Bt w g x p
  ac : LiesO w0 x.ac p.p
  df : LiesO w0 x.df p.q
  xs : MineX w0 w p.X x.xs.length p.n x.xs
  bg : ∃ C, w0.heap[g]? = some (.cells C 28 (0, 0))
  on : Only (fun j => j = g) w0 w
theorem AtK.lt {w0 w : World} {g : Nat} {x : At} {p : ALie} (h : AtK w0 w g x p) : g < w0.heap.size := by
  obtain ⟨C, hC⟩ := h.bg
  exact lt_of_cells hC
theorem AtK.li {w0 w : World} {g : Nat} {x : At} {p : ALie} (h : AtK w0 w g x p) : LiesO w x.ac p.p ∧ LiesO w x.df p.q := by
  obtain ⟨C, hC⟩ := h.bg
  exact ⟨h.ac.keep hC (by decide) h.on.block, h.df.keep hC (by decide) h.on.block⟩
theorem AtK.lies {w0 w : World} {g : Nat} {x : At} {p : ALie} (h : AtK w0 w g x p) : ALies w x p := ⟨h.li.1.lies, h.li.2.lies, h.xs.cel⟩
theorem AtK.to {w0 w w' : World} {g : Nat} {x : At} {p : ALie} (h : AtK w0 w g x p) (hb : Below w.heap.size w w') : AtK w0 w' g x p :=
  ⟨h.bt.on hb, h.ac, h.df, h.xs.on hb, h.bg, Only.trans h.on (Only.of_below (fun j => j = g) hb) (fun i hi => .inl hi)⟩
theorem AtK.start {u : World} {g : Nat} {x : At} {p : ALie} {C : Array Value} (hz : u.heap[g]? = some (.cells C 28 (0, 0))) (h1 : LiesO u x.ac p.p) (h2 : LiesO u x.df p.q) (h3 : x.xs = []) (h4 : p.X = none) (h5 : p.n = 0) : AtK (u.setRow g (x.c p)) (u.setRow g (x.c p)) g x p := by
  have hb : (u.setRow g (x.c p)).heap[g]? = some (.cells (x.c p) 28 (0, 0)) := setRow_heap _ _ _ _ _ _ hz
  have hk : ∀ j, j < u.heap.size → j ≠ g → (u.setRow g (x.c p)).heap[j]? = u.heap[j]? := fun j _ hj => setRow_other _ _ _ _ hj
  refine ⟨hb, h1.keep hz (by decide) hk, h2.keep hz (by decide) hk, ?_, ⟨_, hb⟩, Only.refl _ _⟩
  rw [h3, h4, h5]
  exact ⟨OwnR.nil _ _ _, fun ad h => by cases h⟩
/-- One value more. -/
theorem AtK.more {w0 w w4 : World} {g gA c : Nat} {x y : At} {p : ALie} {z : Xt} (h : AtK w0 w g x p) (hon : Only (fun j => w0.heap.size ≤ j) w w4) (hA : OwnR w4 52 2 (some ⟨gA, 0, none⟩) (x.xs.length + 1) c (xv x.xs ++ [.string z.key, .string z.val])) (hg : w0.heap.size ≤ gA)
    (hy : y = { x with xs := x.xs ++ [z] }) : AtK w0 (w4.setCell ⟨g, 18, none⟩ (.slice (some ⟨gA, 0, none⟩) (x.xs.length + 1 : Nat) c)) g y ⟨p.p, p.q, some ⟨gA, 0, none⟩, c⟩ := by
  have hlt := h.lt
  have hb4 : Bt w4 g x p := h.bt.keep hon (by omega)
  have hne : gA ≠ g := by omega
  subst hy
  have hlen : (x.xs ++ [z]).length = x.xs.length + 1 := by simp
  refine ⟨?_, h.ac, h.df, ?_, h.bg, ?_⟩
  · have h0 := set_cell hb4 18 (.slice (some ⟨gA, 0, none⟩) (x.xs.length + 1 : Nat) c)
    unfold Bt At.c
    simp only [hlen]
    simpa using h0
  · have hx : MineX w0 w4 (some ⟨gA, 0, none⟩) (x.xs.length + 1) c (x.xs ++ [z]) := ⟨by rw [xv_append]; exact hA, fun ad e => by injection e with e; subst e; exact hg⟩
    show MineX w0 _ (some ⟨gA, 0, none⟩) (x.xs ++ [z]).length c (x.xs ++ [z])
    rw [hlen]
    exact hx.other _ (fun ad e => by injection e with e; subst e; exact hne)
  · exact (Only.trans h.on hon (fun i hi => .inr hi)).setCell (p := ⟨g, 18, none⟩) (.inl rfl) _
theorem AtK.grow {w0 u w4 : World} {g gA : Nat} {x : At} {p : ALie} {o : Obj} (h : AtK w0 u g x p) (hgr : (u.alloc o).grownBy w4 (p.X.map (·.block))) (hor : p.X = some ⟨gA, 0, none⟩ ∨ gA = (u.alloc o).heap.size) :
    Only (fun j => w0.heap.size ≤ j) u w4 ∧ w0.heap.size ≤ gA ∧ Bt w4 g x p := by
  have hsz : w0.heap.size ≤ u.heap.size := h.on.size
  have hlt := h.lt
  have hOn : Only (fun j => w0.heap.size ≤ j) u w4 := ((Only.refl _ u).alloc _).grown hgr (fun j e => .inl (by
    cases hX : p.X with
    | none => rw [hX] at e; cases e
    | some ad => rw [hX] at e; injection e with e; subst e; exact h.xs.2 ad hX))
  refine ⟨hOn, ?_, h.bt.keep hOn (by omega)⟩
  rcases hor with e | e
  · exact h.xs.2 _ e
  · rw [World.size_alloc] at e; omega
theorem rdAt_sm (l : List Nat) : ASm (rdAt l) := by
  have h1 : ∀ a n, (whoL l a n).length ≤ 4 := fun a n => by rw [whoL_length]; omega
  exact ⟨⟨Nat.le_trans (h1 _ _) (by decide), Nat.le_trans (h1 _ _) (by decide)⟩, ⟨Nat.le_trans (h1 _ _) (by decide), Nat.le_trans (h1 _ _) (by decide)⟩, by
    unfold rdAt
    simp only [List.length_map, List.length_range]
    omega⟩
theorem rdAt_key {l : List Nat} (k : Nat) (q : Xt) (hq : (rdAt l).xs[k]? = some q) : q.key.size ≤ 1099511627776 := by
  have hq' : ((List.range (min (fld (l.getD 0 0) 4 4) 4)).map (rdX l))[k]? = some q := hq
  rw [List.getElem?_map] at hq'
  obtain ⟨j, _, hj⟩ := Option.map_eq_some_iff.1 hq'
  rw [← hj]
  have e : (rdX l j).key.size = fld (l.getD (13 + 4 * j) 0) 0 8 := by
    show (textL [l.getD (12 + 4 * j) 0] (fld (l.getD (13 + 4 * j) 0) 0 8)).length = _
    exact textL_len _ _
  have := fld_lt (l.getD (13 + 4 * j) 0) 0 8
  rw [e]
  omega
/-- Behind the two stores of the results. -/
theorem ALies.fin {w w0 w7 : World} {x : At} {p : ALie} (R : Rra w w7) (h1 : LiesO w7 x.ac p.p) (h2 : LiesO w7 x.df p.q) (h3 : MineX w0 w7 p.X x.xs.length p.n x.xs) (hg : w.heap.size + 1 < w0.heap.size) (C : Array Value) (i j : Int) :
    ALies ((w7.setRow w.heap.size C).setRow (w.heap.size + 1) #[.int .i64 i, .int .i64 j]) x p := by
  have k1 : ∀ j, j < w7.heap.size → j ≠ w.heap.size → (w7.setRow w.heap.size C).heap[j]? = w7.heap[j]? := fun j _ hj => setRow_other _ _ _ _ hj
  have k2 : ∀ j', j' < (w7.setRow w.heap.size C).heap.size → j' ≠ w.heap.size + 1 → ((w7.setRow w.heap.size C).setRow (w.heap.size + 1) #[.int .i64 i, .int .i64 j]).heap[j']? = (w7.setRow w.heap.size C).heap[j']? := fun j _ hj => setRow_other _ _ _ _ hj
  have hf := R.flt2 C
  refine ⟨((h1.keep R.res (by decide) k1).keep hf (by decide) k2).lies, ((h2.keep R.res (by decide) k1).keep hf (by decide) k2).lies, ?_⟩
  exact (h3.1.keep fun ad e => by
    have := h3.2 ad e
    rw [setRow_other _ _ _ _ (by omega), setRow_other _ _ _ _ (by omega)]).cel
theorem run_mulI {a : Act} {o : Oper} {u : World} {x y : Operand} {t : TypeId} (ho : o.op = .binOp .mul 3 x y t) (i j : Nat) (h1 : a.eval x = .int .i64 (i : Nat)) (h2 : a.eval y = .int .i64 (j : Nat)) (hb : i * j < 9223372036854775808) : (execOp a.eval o).run Tryz.prog u = .ok (.value (.int .i64 ((i * j : Nat) : Int))) u := by
  have e : IntKind.i64.wrap ((i : Int) * (j : Int)) = ((i * j : Nat) : Int) := by
    rw [← Int.natCast_mul, IntKind.wrap_i64]
    generalize i * j = m at *
    omega
  unfold execOp
  rw [ho]
  simp only [h1, h2]
  rw [← e]
  simp [go_sem]
theorem run_addI {a : Act} {o : Oper} {u : World} {x y : Operand} {t : TypeId} (ho : o.op = .binOp .add 3 x y t) (i j : Nat) (h1 : a.eval x = .int .i64 (i : Nat)) (h2 : a.eval y = .int .i64 (j : Nat)) (hb : i + j < 9223372036854775808) : (execOp a.eval o).run Tryz.prog u = .ok (.value (.int .i64 ((i + j : Nat) : Int))) u := by
  have e : IntKind.i64.wrap ((i : Int) + (j : Int)) = ((i + j : Nat) : Int) := by
    rw [IntKind.wrap_i64]
    omega
  unfold execOp
  rw [ho]
  simp only [h1, h2]
  rw [← e]
  simp [go_sem]
theorem run_slice2 {a : Act} {o : Oper} {u : World} {x y z : Operand} (ho : o.op = .slice 36 x (some y) (some z) none) (g off n c i m : Nat) (h1 : a.eval x = .slice (some ⟨g, off, none⟩) n c) (h2 : a.eval y = .int .i64 (i : Nat)) (h3 : a.eval z = .int .i64 ((i + m : Nat) : Int)) (hc : i + m ≤ c) (hm : 0 < m) : (execOp a.eval o).run Tryz.prog u = .ok (.value (.slice (some ⟨g, off + i, none⟩) m (c - i))) u := by
  have d1 : (i : Int) ≤ ((i + m : Nat) : Int) := by omega
  have d2 : ((i + m : Nat) : Int) ≤ (c : Int) := by omega
  have d3 : c - i ≠ 0 := by omega
  have d4 : i + m - i = m := by omega
  have d5 : ¬ c = i := by omega
  unfold execOp
  rw [ho]
  simp only [Option.map_some, Option.map_none, h1, h2, h3]
  generalize i + m = M at *
  simp [go_sem, d1, d2, d3, d4, d5]
theorem run_iaddrT {a : Act} {o : Oper} {u : World} {x y : Operand} (ho : o.op = .indexAddr 36 x y) (g off n c i : Nat) (h1 : a.eval x = .slice (some ⟨g, off, none⟩) n c) (h2 : a.eval y = .int .i64 (i : Nat)) (hi : i < n) : (execOp a.eval o).run Tryz.prog u = .ok (.value (.pointer (some ⟨g, off + i, none⟩))) u := by
  have hi2 : (i : Int) < (n : Int) := by omega
  unfold execOp
  rw [ho]
  simp only [h1, h2]
  simp [go_sem, hi2]
theorem row_of {u : World} {b o : Nat} {L : List Nat} (hlt : b < u.heap.size) (h : ∀ j, j < L.length → u.cell? ⟨b, o + j, none⟩ = some (.int .u64 ((L.getD j 0 : Nat) : Int))) : Row u (some ⟨b, o, none⟩) L := fun _ => ⟨_, rfl, hlt, fun j hj => by
  have e : (⟨b, o, none⟩ : Addr).add j = ⟨b, o + j, none⟩ := by
    unfold Addr.add
    split
    · subst j; rfl
    · rfl
  rw [e]
  exact h j hj⟩
set_option maxRecDepth 100000 in
set_option maxHeartbeats 8000000 in
theorem rdec_1 (A : Option Addr) (l : List Nat) (c : Nat) (w : World) (hr : Row w A l) (hl : Wd l) (hcap : l.length ≤ c) (hm : mkB l = true) :
    Calls Tryz.prog 46 #[.slice A l.length c] w (RDec l w) := by
  have h32 := mkB_len hm
  obtain ⟨V, hV⟩ : ∃ V, V = (w.alloc (.cells zA 28)).alloc (.cells #[.int .i64 0, .int .i64 0] 60) := ⟨_, rfl⟩
  have R0 : Hid (Rra w V) := Lib.hid (by rw [hV]; exact Rra.new w)
  have HR := Lib.hid (hr.below R0.out.on)
  have HW := Lib.hid hl
  have HMK := Lib.hid hm
  have H32 := Lib.hid h32
  have HOP := Lib.hid (ropen_calls A l c V HR.out hl (by omega) hcap)
  unfold RDec
  rw [mk_word h32 hl, decide_eq_true_eq] at hm
  obtain ⟨b, o, rfl, hlt, hcs⟩ := HR.out.at0 (by omega)
  have hx0 := hl 0
  have hx1 := hl 1
  have cell0 := hcs 0 (by omega)
  have HCS := Lib.hid hcs
  rw [h32] at HOP hcap ⊢
  obtain ⟨x0, e0⟩ : ∃ x0, l.getD 0 0 = x0 := ⟨_, rfl⟩
  obtain ⟨x1, e1⟩ : ∃ x1, l.getD 1 0 = x1 := ⟨_, rfl⟩
  rw [e0] at hm hx0 cell0
  rw [e1] at hx1
  rw [Nat.add_zero] at cell0
  have E0 := Lib.hid e0
  have E1 := Lib.hid e1
  have d2 : (((x0 : Int) / 4294967296) != 1096045650) = false := by rw [bne_eq_false_iff_eq]; omega
  have d1 : (((x0 : Int) / 4294967296) == 1096045650) = true := by rw [beq_iff_eq]; omega
  clear hr hl hcs e0 e1 hm h32
  go_enter Tryz.func46, Tryz.ntmps46
  go_upto_region 1 with (fail)
  rw [← hV]
  clear hV
  go_wp2_with (fail)
  refine HOP.out.mono ?_
  rintro e w1 ⟨A1, c1, rfl, _, _, hb, _⟩
  have R1 := Lib.hid (R0.out.on' hb)
  have HR1 := Lib.hid (HR.out.below hb)
  obtain ⟨ob, hob⟩ : ∃ ob, openB l = ob := ⟨_, rfl⟩
  rw [hob]
  have HOB := Lib.hid hob
  clear hb hob HOP R0 HR cell0 d1 d2 hlt HCS
  cases ob
  case false =>
    have HV : Hid (badA l = some 31) := Lib.hid (badA_31 HMK.out HOB.out)
    go_wp2_with (first
      | (refine wpList_buildTo rfl 28 #[] rfl (some 31) rfl zA (by simpa using built_zA) ?_)
      | (refine wpList_store_rowTo rfl 28 (.tmp 2) (.tmp 31) rfl rfl w.heap.size zA rfl rfl 28 _ R1.out.res attr_size rfl zA_one ?_)
      | (refine wpList_store_rowTo rfl 60 (.tmp 3) (.tmp 32) rfl rfl (w.heap.size + 1) #[.int .i64 31, .int .i64 7] rfl rfl 60 _ (R1.out.flt2 zA) fault_size rfl (two_one _ _) ?_))
    obtain ⟨q1, q2, q3⟩ := R1.out.fin zA 31 7
    exact bodyPost_ret (v := .tuple #[.agg zA, .agg #[.int .i64 31, .int .i64 7]]) (rra_results q1 attr_size q2 rfl rfl) rfl ⟨alieZ, by rw [HV.out, attA_bad HV.out]; rfl, by rw [attA_bad HV.out]; exact alies_Z _, q3⟩
  case true =>
  go_upto_region 6 with (fail)
  have c0 := fun u => field_calls x0 0 3 u hx0 (by decide) (by decide)
  have bf0 := fld_lt x0 0 3
  obtain ⟨f0, hf0⟩ : ∃ f0, fld x0 0 3 = f0 := ⟨_, rfl⟩
  simp only [hf0] at c0 bf0
  have HF0 := Lib.hid c0
  have HQ0 := Lib.hid hf0
  clear c0 hf0
  have c1 := fun u => field_calls x0 3 1 u hx0 (by decide) (by decide)
  have bfb := fld_lt x0 3 1
  obtain ⟨fb, hfb⟩ : ∃ fb, fld x0 3 1 = fb := ⟨_, rfl⟩
  simp only [hfb] at c1 bfb
  have HF1 := Lib.hid c1
  have HQ1 := Lib.hid hfb
  clear c1 hfb
  have c2 := fun u => field_calls x1 0 16 u hx1 (by decide) (by decide)
  have bf1 := fld_lt x1 0 16
  obtain ⟨f1, hf1⟩ : ∃ f1, fld x1 0 16 = f1 := ⟨_, rfl⟩
  simp only [hf1] at c2 bf1
  have HF2 := Lib.hid c2
  have HQ2 := Lib.hid hf1
  clear c2 hf1
  have c3 := fun u => field_calls x1 16 16 u hx1 (by decide) (by decide)
  have bf2 := fld_lt x1 16 16
  obtain ⟨f2, hf2⟩ : ∃ f2, fld x1 16 16 = f2 := ⟨_, rfl⟩
  simp only [hf2] at c3 bf2
  have HF3 := Lib.hid c3
  have HQ3 := Lib.hid hf2
  clear c3 hf2
  have w4 : IntKind.u8.wrap (f0 : Int) = (f0 : Int) := by rw [IntKind.wrap_u8]; omega
  have w14 : IntKind.u16.wrap (f1 : Int) = (f1 : Int) := by rw [IntKind.wrap_u16]; omega
  have w19 : IntKind.u16.wrap (f2 : Int) = (f2 : Int) := by rw [IntKind.wrap_u16]; omega
  obtain ⟨bb, hbb⟩ : ∃ bb, decide (fb = 1) = bb := ⟨_, rfl⟩
  have e9 : ((fb : Int) == 1) = bb := by rw [← hbb, Bool.eq_iff_iff, beq_iff_eq, decide_eq_true_eq]; omega
  have HBB := Lib.hid hbb
  clear hbb
  obtain ⟨xa, hxa⟩ : ∃ xa, rdAc l 2 4 = xa := ⟨_, rfl⟩
  obtain ⟨xd, hxd⟩ : ∃ xd, rdAc l 3 8 = xd := ⟨_, rfl⟩
  have la := fun u (hr : Row u (some ⟨b, o, none⟩) l) => list_calls (some ⟨b, o, none⟩) l c 2 4 u hr HW.out (by rw [H32.out]; decide) (by rw [H32.out]; decide) (by rw [H32.out]; decide)
  have ld := fun u (hr : Row u (some ⟨b, o, none⟩) l) => list_calls (some ⟨b, o, none⟩) l c 3 8 u hr HW.out (by rw [H32.out]; decide) (by rw [H32.out]; decide) (by rw [H32.out]; decide)
  simp only [H32.out, hxa] at la
  simp only [H32.out, hxd] at ld
  have HLA := Lib.hid la
  have HLD := Lib.hid ld
  have HXA := Lib.hid hxa
  have HXD := Lib.hid hxd
  clear la ld hxa hxd
  have hcell : Hid (∀ u, On w1 u → ∀ k, k < 32 → u.cell? ⟨b, o + k, none⟩ = some (.int .u64 ((l.getD k 0 : Nat) : Int))) := Lib.hid (fun u hb k hk => by
    obtain ⟨b', o', e, _, hc⟩ := (HR1.out.below hb).at0 (by rw [H32.out]; decide)
    injection e with e
    injection e with e1 e2
    subst e1 e2
    exact hc k (by rw [H32.out]; exact hk))
  refine wp_region_storeV (R4 [.val (.slice (some ⟨b, o, none⟩) 32 c), .val (.pointer (some ⟨b, o + 0, none⟩)), .val (.int .u64 (x0 : Nat)), .val (.int .u64 (f0 : Nat)), .val (.int .u8 (f0 : Nat)), .val (.slice (some ⟨b, o, none⟩) 32 c), .val (.pointer (some ⟨b, o + 0, none⟩)), .val (.int .u64 (x0 : Nat)), .val (.int .u64 (fb : Nat)), .val (.bool bb), .val (.slice (some ⟨b, o, none⟩) 32 c), .val (.pointer (some ⟨b, o + 1, none⟩)), .val (.int .u64 (x1 : Nat)), .val (.int .u64 (f1 : Nat)), .val (.int .u16 (f1 : Nat)), .val (.slice (some ⟨b, o, none⟩) 32 c), .val (.pointer (some ⟨b, o + 1, none⟩)), .val (.int .u64 (x1 : Nat)), .val (.int .u64 (f2 : Nat)), .val (.int .u16 (f2 : Nat)), .val (.slice (some ⟨b, o, none⟩) 32 c), .aco xa, .val (.slice (some ⟨b, o, none⟩) 32 c), .aco xd, .ato ⟨f0, f1, f2, xa, bb, xd, []⟩, .new w1.heap.size]) 26 25 24 6 57 28 rfl rfl (by decide) (by decide) rfl rfl (by kernel_rfl) (by kernel_rfl) (by kernel_rfl) rfl (by kernel_rfl) rfl rfl (fun _ _ _ _ h k => Sp4.stable h k) ?steps ?last
  case steps =>
    refine ⟨?s0, ?s1, ?s2, ?s3, ?s4, ?s5, ?s6, ?s7, ?s8, ?s9, ?s10, ?s11, ?s12, ?s13, ?s14, ?s15, ?s16, ?s17, ?s18, ?s19, ?s20, ?s21, ?s22, ?s23, ?s24, ?s25, trivial⟩
    case s0 =>
      exact st4_val _ rfl (.inl rfl) fun a u hb hA hd => by
        have q0 := ev_of (show a.eval (.tmp 0) = (.slice (some ⟨b, o, none⟩) 32 c) from hA.eval 0 rfl)
        unfold execOp
        simp [go_sem, q0]
    case s1 =>
      exact st4_val _ rfl (.inl rfl) fun a u hb hA hd => run_iaddr 0 rfl b o 32 c (hd 0 33 rfl rfl _ rfl) (by decide)
    case s2 =>
      exact st4_val _ rfl (.inl rfl) fun a u hb hA hd => run_load64 rfl _ _ (hd 1 34 rfl rfl _ rfl) (by
        have h := hcell.out u hb 0 (by decide)
        rw [E0.out] at h
        exact h)
    case s3 =>
      refine st4_call _ rfl (.inl rfl) 70 fun a u hb hA hd => ?_
      have k0 := ev_of (show a.eval (.tmp 35) = .int .u64 (x0 : Nat) from hd 2 35 rfl rfl _ rfl)
      refine ⟨#[.int .u64 (x0 : Nat), .int .i64 0, .int .i64 3], ?_, (HF0.out u).mono ?_⟩
      · unfold execOp
        simp [go_sem, k0]
      · rintro e w' ⟨rfl, rfl⟩
        exact ⟨_, rfl, rfl, Below.refl _ _⟩
    case s4 =>
      exact st4_val _ rfl (.inl rfl) fun a u hb hA hd => by
        have q0 := ev_of (hd 3 36 rfl rfl _ rfl)
        unfold execOp
        simp [go_sem, q0, w4]
    case s5 =>
      exact st4_val _ rfl (.inl rfl) fun a u hb hA hd => by
        have q0 := ev_of (show a.eval (.tmp 0) = (.slice (some ⟨b, o, none⟩) 32 c) from hA.eval 0 rfl)
        unfold execOp
        simp [go_sem, q0]
    case s6 =>
      exact st4_val _ rfl (.inl rfl) fun a u hb hA hd => run_iaddr 0 rfl b o 32 c (hd 5 38 rfl rfl _ rfl) (by decide)
    case s7 =>
      exact st4_val _ rfl (.inl rfl) fun a u hb hA hd => run_load64 rfl _ _ (hd 6 39 rfl rfl _ rfl) (by
        have h := hcell.out u hb 0 (by decide)
        rw [E0.out] at h
        exact h)
    case s8 =>
      refine st4_call _ rfl (.inl rfl) 70 fun a u hb hA hd => ?_
      have k0 := ev_of (show a.eval (.tmp 40) = .int .u64 (x0 : Nat) from hd 7 40 rfl rfl _ rfl)
      refine ⟨#[.int .u64 (x0 : Nat), .int .i64 3, .int .i64 1], ?_, (HF1.out u).mono ?_⟩
      · unfold execOp
        simp [go_sem, k0]
      · rintro e w' ⟨rfl, rfl⟩
        exact ⟨_, rfl, rfl, Below.refl _ _⟩
    case s9 =>
      exact st4_val _ rfl (.inl rfl) fun a u hb hA hd => by
        have q0 := ev_of (hd 8 41 rfl rfl _ rfl)
        unfold execOp
        simp [go_sem, q0, e9]
    case s10 =>
      exact st4_val _ rfl (.inl rfl) fun a u hb hA hd => by
        have q0 := ev_of (show a.eval (.tmp 0) = (.slice (some ⟨b, o, none⟩) 32 c) from hA.eval 0 rfl)
        unfold execOp
        simp [go_sem, q0]
    case s11 =>
      exact st4_val _ rfl (.inl rfl) fun a u hb hA hd => run_iaddr 1 rfl b o 32 c (hd 10 43 rfl rfl _ rfl) (by decide)
    case s12 =>
      exact st4_val _ rfl (.inl rfl) fun a u hb hA hd => run_load64 rfl _ _ (hd 11 44 rfl rfl _ rfl) (by
        have h := hcell.out u hb 1 (by decide)
        rw [E1.out] at h
        exact h)
    case s13 =>
      refine st4_call _ rfl (.inl rfl) 70 fun a u hb hA hd => ?_
      have k0 := ev_of (show a.eval (.tmp 45) = .int .u64 (x1 : Nat) from hd 12 45 rfl rfl _ rfl)
      refine ⟨#[.int .u64 (x1 : Nat), .int .i64 0, .int .i64 16], ?_, (HF2.out u).mono ?_⟩
      · unfold execOp
        simp [go_sem, k0]
      · rintro e w' ⟨rfl, rfl⟩
        exact ⟨_, rfl, rfl, Below.refl _ _⟩
    case s14 =>
      exact st4_val _ rfl (.inl rfl) fun a u hb hA hd => by
        have q0 := ev_of (hd 13 46 rfl rfl _ rfl)
        unfold execOp
        simp [go_sem, q0, w14]
    case s15 =>
      exact st4_val _ rfl (.inl rfl) fun a u hb hA hd => by
        have q0 := ev_of (show a.eval (.tmp 0) = (.slice (some ⟨b, o, none⟩) 32 c) from hA.eval 0 rfl)
        unfold execOp
        simp [go_sem, q0]
    case s16 =>
      exact st4_val _ rfl (.inl rfl) fun a u hb hA hd => run_iaddr 1 rfl b o 32 c (hd 15 48 rfl rfl _ rfl) (by decide)
    case s17 =>
      exact st4_val _ rfl (.inl rfl) fun a u hb hA hd => run_load64 rfl _ _ (hd 16 49 rfl rfl _ rfl) (by
        have h := hcell.out u hb 1 (by decide)
        rw [E1.out] at h
        exact h)
    case s18 =>
      refine st4_call _ rfl (.inl rfl) 70 fun a u hb hA hd => ?_
      have k0 := ev_of (show a.eval (.tmp 50) = .int .u64 (x1 : Nat) from hd 17 50 rfl rfl _ rfl)
      refine ⟨#[.int .u64 (x1 : Nat), .int .i64 16, .int .i64 16], ?_, (HF3.out u).mono ?_⟩
      · unfold execOp
        simp [go_sem, k0]
      · rintro e w' ⟨rfl, rfl⟩
        exact ⟨_, rfl, rfl, Below.refl _ _⟩
    case s19 =>
      exact st4_val _ rfl (.inl rfl) fun a u hb hA hd => by
        have q0 := ev_of (hd 18 51 rfl rfl _ rfl)
        unfold execOp
        simp [go_sem, q0, w19]
    case s20 =>
      exact st4_val _ rfl (.inl rfl) fun a u hb hA hd => by
        have q0 := ev_of (show a.eval (.tmp 0) = (.slice (some ⟨b, o, none⟩) 32 c) from hA.eval 0 rfl)
        unfold execOp
        simp [go_sem, q0]
    case s21 =>
      refine st4_call _ rfl (.inl rfl) 71 fun a u hb hA hd => ?_
      have k0 := ev_of (show a.eval (.tmp 53) = .slice (some ⟨b, o, none⟩) 32 c from hd 20 53 rfl rfl _ rfl)
      refine ⟨#[.slice (some ⟨b, o, none⟩) 32 c, .int .i64 2, .int .i64 4], ?_, (HLA.out u (HR1.out.below hb)).mono ?_⟩
      · unfold execOp
        simp [go_sem, k0]
      · rintro e w' ⟨p', rfl, hl', hb'⟩
        exact ⟨_, rfl, ⟨p', rfl, hl'⟩, hb'⟩
    case s22 =>
      exact st4_val _ rfl (.inl rfl) fun a u hb hA hd => by
        have q0 := ev_of (show a.eval (.tmp 0) = (.slice (some ⟨b, o, none⟩) 32 c) from hA.eval 0 rfl)
        unfold execOp
        simp [go_sem, q0]
    case s23 =>
      refine st4_call _ rfl (.inl rfl) 71 fun a u hb hA hd => ?_
      have k0 := ev_of (show a.eval (.tmp 55) = .slice (some ⟨b, o, none⟩) 32 c from hd 22 55 rfl rfl _ rfl)
      refine ⟨#[.slice (some ⟨b, o, none⟩) 32 c, .int .i64 3, .int .i64 8], ?_, (HLD.out u (HR1.out.below hb)).mono ?_⟩
      · unfold execOp
        simp [go_sem, k0]
      · rintro e w' ⟨p', rfl, hl', hb'⟩
        exact ⟨_, rfl, ⟨p', rfl, hl'⟩, hb'⟩
    case s24 =>
      refine st4_gen _ rfl (.inl rfl) fun a u hb hA hd => ?_
      have k0 := ev_of (show a.eval (.tmp 37) = .int .u8 (f0 : Nat) from hd 4 37 rfl rfl _ rfl)
      have k1 := ev_of (show a.eval (.tmp 42) = .bool bb from hd 9 42 rfl rfl _ rfl)
      have k2 := ev_of (show a.eval (.tmp 47) = .int .u16 (f1 : Nat) from hd 14 47 rfl rfl _ rfl)
      have k3 := ev_of (show a.eval (.tmp 52) = .int .u16 (f2 : Nat) from hd 19 52 rfl rfl _ rfl)
      obtain ⟨p1, e4, hl1⟩ := (show ∃ p, a.eval (.tmp 54) = Ac.v xa p ∧ LiesO u xa p from hd 21 54 rfl rfl _ rfl)
      obtain ⟨p2, e5, hl2⟩ := (show ∃ p, a.eval (.tmp 56) = Ac.v xd p ∧ LiesO u xd p from hd 23 56 rfl rfl _ rfl)
      have k4 := ev_of (show a.eval (.tmp 54) = .agg #[.int .u8 (xa.ow : Nat), .int .u8 (xa.gr : Nat), .int .u8 (xa.ot : Nat), .slice p1.A xa.us.length p1.c, .slice p1.B xa.gs.length p1.d, .bool xa.hm, .int .u8 (xa.ms : Nat)] from e4)
      have k5 := ev_of (show a.eval (.tmp 56) = .agg #[.int .u8 (xd.ow : Nat), .int .u8 (xd.gr : Nat), .int .u8 (xd.ot : Nat), .slice p2.A xd.us.length p2.c, .slice p2.B xd.gs.length p2.d, .bool xd.hm, .int .u8 (xd.ms : Nat)] from e5)
      refine ⟨At.v ⟨f0, f1, f2, xa, bb, xd, []⟩ ⟨p1, p2, none, 0⟩, u, ?_, ⟨_, rfl, hl1, hl2, rfl, rfl⟩, On.refl _⟩
      unfold execOp
      simp [go_sem, k0, k1, k2, k3, k4, k5]
    case s25 =>
      refine st4_gen _ rfl (.inl rfl) fun a u hb hA hd => ?_
      exact ⟨_, _, run_allocT rfl, ⟨u.heap.size, rfl, hb.size, heap_alloc_new u _⟩, on_alloc u _⟩
  case last =>
  intro vs u hb hR
  obtain ⟨g, e25, hgB, hz⟩ := R4.at (.new w1.heap.size) rfl (hR 25 (by decide))
  obtain ⟨p, e24, ho1, ho2, hp0, hp1⟩ := R4.at (.ato ⟨f0, f1, f2, xa, bb, xd, []⟩) rfl (hR 24 (by decide))
  refine ⟨g, At.c ⟨f0, f1, f2, xa, bb, xd, []⟩ p, zA, _, e25, e24, hz, attr_size, rfl, c_one _ p, ?_⟩
  simp only [putsFrom, Act.put, List.setIfInBounds_toArray, List.set_cons_succ, List.set_cons_zero, e24, e25]
  generalize vs 0 = z0
  generalize vs 1 = z1
  generalize vs 2 = z2
  generalize vs 3 = z3
  generalize vs 4 = z4
  generalize vs 5 = z5
  generalize vs 6 = z6
  generalize vs 7 = z7
  generalize vs 8 = z8
  generalize vs 9 = z9
  generalize vs 10 = z10
  generalize vs 11 = z11
  generalize vs 12 = z12
  generalize vs 13 = z13
  generalize vs 14 = z14
  generalize vs 15 = z15
  generalize vs 16 = z16
  generalize vs 17 = z17
  generalize vs 18 = z18
  generalize vs 19 = z19
  generalize vs 20 = z20
  generalize vs 21 = z21
  generalize vs 22 = z22
  generalize vs 23 = z23
  obtain ⟨w2, hw2⟩ : ∃ w2, w2 = u.setRow g (At.c ⟨f0, f1, f2, xa, bb, xd, []⟩ p) := ⟨_, rfl⟩
  have hX0 : (⟨f0, f1, f2, xa, bb, xd, []⟩ : At) = rdK l 0 := by
    unfold rdK
    rw [E0.out, E1.out, HQ0.out, HQ1.out, HQ2.out, HQ3.out, HXA.out, HXD.out, HBB.out]
    rfl
  have K0 : Hid (AtK w2 w2 g (rdK l 0) p) := Lib.hid (by rw [hw2, ← hX0]; exact AtK.start hz ho1 ho2 rfl hp0 hp1)
  have O12 : Hid (Only (fun j => j = g) w1 w2) := Lib.hid (by rw [hw2]; exact Only.setRow (F := fun j => j = g) (Only.of_below _ hb) rfl _)
  have hgw : w.heap.size + 1 < g := by have := lt_of_cells R1.out.flt; omega
  have HGW := Lib.hid hgw
  have HG1 := Lib.hid hgB
  have HB12 : Hid (Below w1.heap.size w1 w2) := Lib.hid (O12.out.below (Nat.le_refl _) (fun i hi => by have := HG1.out; omega))
  have R2 : Hid (Rra w w2) := Lib.hid (R1.out.keep O12.out (fun i hi => by have := HGW.out; omega))
  have HONF : Hid (∀ {wr : World} {x : At} {q : ALie}, AtK w2 wr g x q → Below w1.heap.size w1 wr) := Lib.hid (fun h => HB12.out.trans (h.on.below HB12.out.size (fun i hi => by have := HG1.out; omega)))
  have HRRA : Hid (∀ {wr : World} {x : At} {q : ALie}, AtK w2 wr g x q → Rra w wr) := Lib.hid (fun h => R2.out.keep h.on (fun i hi => by have := HGW.out; omega))
  rw [← hw2]
  obtain ⟨n0, hn0⟩ : ∃ n0, fld x0 4 4 = n0 := ⟨_, rfl⟩
  have bn0 := fld_lt x0 4 4
  rw [hn0] at bn0
  have HCN : Hid (cntX l = n0) := Lib.hid (by unfold cntX; rw [E0.out]; exact hn0)
  have cn := fun u => field_calls x0 4 4 u hx0 (by decide) (by decide)
  simp only [hn0] at cn
  have HFN := Lib.hid cn
  obtain ⟨i0, hi0, hz0, hs0, hb0⟩ := info_parts xattr_info
  have HI := Lib.hid hi0
  have HZ := Lib.hid hz0
  have HS := Lib.hid hs0
  have HB := Lib.hid hb0
  clear hw2 hX0 hz ho1 ho2 hp0 hp1 hgw hgB hn0 cn hi0 hz0 hs0 hb0 hb hR e24 e25 w4 w14 w19 e9 HF0 HF1 HF2 HF3 HLA HLD R1 O12 bf0 bfb bf1 bf2 hx1
  clear HQ0 HQ1 HQ2 HQ3 HXA HXD HBB E1
  go_wp2_with (fail)
  go_loopw [7, 8, 9, 10, 11] (fun i _ _ _ _ wr => ∃ k : Nat, i = .int .i64 k ∧ k ≤ min n0 4 ∧ Hid (LensOk l k) ∧ ∃ q, Hid (AtK w2 wr g (rdK l k) q)) (fun i _ _ _ _ _ => 4 - (intOf i).toNat)
  case atStart => exact ⟨0, rfl, by omega, Lib.hid (fun j hj => by omega), p, K0⟩
  case round =>
  obtain ⟨k, rfl, hk, hL, q, hK⟩ := hrel
  have hon := HONF.out hK.out
  have cell0 := hcell.out wr hon 0 (by decide)
  rw [Nat.add_zero, E0.out] at cell0
  have HON := Lib.hid hon
  clear hon
  by_cases hkm : k < min n0 4
  case pos =>
    have hkn : (k : Int) < (n0 : Int) := by omega
    have hk4 : (k : Int) < 4 := by omega
    have hd1 : decide ((k : Int) < (n0 : Int)) = true := decide_eq_true hkn
    have hd2 : decide ((k : Int) < 4) = true := decide_eq_true hk4
    go_wp2_with (fail)
    refine (HFN.out _).mono ?_
    rintro e u3 ⟨rfl, rfl⟩
    go_upto_region 10 with (fail)
    have hk3 : k ≤ 3 := by omega
    have HK3 := Lib.hid hk3
    clear hkn hk4 hd1 hd2 cell0
    obtain ⟨y0, hy0⟩ : ∃ y, l.getD (12 + 4 * k) 0 = y := ⟨_, rfl⟩
    obtain ⟨y1, hy1⟩ : ∃ y, l.getD (13 + 4 * k) 0 = y := ⟨_, rfl⟩
    obtain ⟨y2, hy2⟩ : ∃ y, l.getD (14 + 4 * k) 0 = y := ⟨_, rfl⟩
    obtain ⟨y3, hy3⟩ : ∃ y, l.getD (15 + 4 * k) 0 = y := ⟨_, rfl⟩
    have wy1 : y1 < 18446744073709551616 := by rw [← hy1]; exact HW.out _
    have WY0 : Hid (Wd [y0]) := Lib.hid (fun j => by
      match j with
      | 0 => rw [← hy0]; exact HW.out _
      | j + 1 => simp)
    have WY2 : Hid (Wd [y2, y3]) := Lib.hid (fun j => by
      match j with
      | 0 => rw [← hy2]; exact HW.out _
      | 1 => rw [← hy3]; exact HW.out _
      | j + 2 => simp)
    obtain ⟨n1, hn1⟩ : ∃ n, fld y1 0 8 = n := ⟨_, rfl⟩
    obtain ⟨n2, hn2⟩ : ∃ n, fld y1 8 8 = n := ⟨_, rfl⟩
    have bn1 := fld_lt y1 0 8
    have bn2 := fld_lt y1 8 8
    rw [hn1] at bn1
    rw [hn2] at bn2
    have ca := fun u => field_calls y1 0 8 u wy1 (by decide) (by decide)
    have cb := fun u => field_calls y1 8 8 u wy1 (by decide) (by decide)
    simp only [hn1] at ca
    simp only [hn2] at cb
    have HFA := Lib.hid ca
    have HFB := Lib.hid cb
    clear ca cb
    have ct := fun u (hr : Row u (some ⟨b, o + (12 + 4 * k), none⟩) [y0]) => rtext_calls (some ⟨b, o + (12 + 4 * k), none⟩) [y0] (c - (12 + 4 * k)) (n1 : Nat) u (by omega) (by omega) hr WY0.out (by show 1 ≤ 1099511627776; decide)
    have cv := fun u (hr : Row u (some ⟨b, o + (14 + 4 * k), none⟩) [y2, y3]) => rtext_calls (some ⟨b, o + (14 + 4 * k), none⟩) [y2, y3] (c - (14 + 4 * k)) (n2 : Nat) u (by omega) (by omega) hr WY2.out (by show 2 ≤ 1099511627776; decide)
    obtain ⟨s1, hs1⟩ : ∃ s, txtV [y0] (n1 : Nat) = s := ⟨_, rfl⟩
    obtain ⟨s2, hs2⟩ : ∃ s, txtV [y2, y3] (n2 : Nat) = s := ⟨_, rfl⟩
    obtain ⟨t1, ht1⟩ : ∃ s, txtE [y0] (n1 : Nat) = s := ⟨_, rfl⟩
    obtain ⟨t2, ht2⟩ : ∃ s, txtE [y2, y3] (n2 : Nat) = s := ⟨_, rfl⟩
    simp only [hs1, ht1] at ct
    simp only [hs2, ht2] at cv
    have HCT := Lib.hid ct
    have HCV := Lib.hid cv
    clear ct cv
    have hbk : ∀ u, On w1 u → b < u.heap.size := fun u hb => by
      obtain ⟨b', o', e, hlt', _⟩ := (HR1.out.below hb).at0 (by rw [H32.out]; decide)
      injection e with e
      injection e with e1 e2
      subst e1 e2
      exact hlt'
    have HRA : Hid (∀ u, On w1 u → Row u (some ⟨b, o + (12 + 4 * k), none⟩) [y0]) := Lib.hid (fun u hb => row_of (hbk u hb) (fun j hj => by
      obtain rfl : j = 0 := by simp at hj; omega
      have h := hcell.out u hb (12 + 4 * k) (by omega)
      rw [hy0] at h
      exact h))
    have HRB : Hid (∀ u, On w1 u → Row u (some ⟨b, o + (14 + 4 * k), none⟩) [y2, y3]) := Lib.hid (fun u hb => row_of (hbk u hb) (fun j hj => by
      have hj' : j = 0 ∨ j = 1 := by simp at hj; omega
      rcases hj' with rfl | rfl
      · have h := hcell.out u hb (14 + 4 * k) (by omega)
        rw [hy2] at h
        exact h
      · have h := hcell.out u hb (15 + 4 * k) (by omega)
        rw [hy3] at h
        rw [show o + (14 + 4 * k) + 1 = o + (15 + 4 * k) by omega]
        exact h))
    have HCW : Hid (∀ u, On w1 u → u.cell? ⟨b, o + (13 + 4 * k), none⟩ = some (.int .u64 (y1 : Nat))) := Lib.hid (fun u hb => by
      have h := hcell.out u hb (13 + 4 * k) (by omega)
      rw [hy1] at h
      exact h)
    have H0 := Lib.hid hy0
    have H1 := Lib.hid hy1
    have H2 := Lib.hid hy2
    have H3 := Lib.hid hy3
    have HN1 := Lib.hid hn1
    have HN2 := Lib.hid hn2
    have HS1 := Lib.hid hs1
    have HS2 := Lib.hid hs2
    have HT1 := Lib.hid ht1
    have HT2 := Lib.hid ht2
    have wn1 : IntKind.i64.wrap (n1 : Int) = (n1 : Int) := by rw [IntKind.wrap_i64]; omega
    have wn2 : IntKind.i64.wrap (n2 : Int) = (n2 : Int) := by rw [IntKind.wrap_i64]; omega
    clear hy0 hy1 hy2 hy3 hn1 hn2 hs1 hs2 ht1 ht2 hbk wy1 bn0 hx0
    refine wp_region4 [.val (.slice (some ⟨b, o, none⟩) 32 c), .val (.int .i64 (k : Nat)), .val (.int .i64 (4 * k : Nat)), .val (.int .i64 (12 + 4 * k : Nat)), .val (.int .i64 (k : Nat)), .val (.int .i64 (4 * k : Nat)), .val (.int .i64 (13 + 4 * k : Nat)), .val (.slice (some ⟨b, o + (12 + 4 * k), none⟩) 1 (c - (12 + 4 * k))), .val (.slice (some ⟨b, o, none⟩) 32 c), .val (.int .i64 (k : Nat)), .val (.int .i64 (4 * k : Nat)), .val (.int .i64 (13 + 4 * k : Nat)), .val (.pointer (some ⟨b, o + (13 + 4 * k), none⟩)), .val (.int .u64 (y1 : Nat)), .val (.int .u64 (n1 : Nat)), .val (.int .i64 (n1 : Nat)), .val (.tuple #[.string s1, .int .i64 t1]), .val (.tuple #[.string s1, .int .i64 t1]), .val (.string s1), .val (.int .i64 t1), .val (.string s1), .val (.int .i64 t1)] (by kernel_rfl) (by kernel_rfl) (by kernel_rfl) ?asteps ?arest
    case asteps =>
      refine ⟨?a0, ?a1, ?a2, ?a3, ?a4, ?a5, ?a6, ?a7, ?a8, ?a9, ?a10, ?a11, ?a12, ?a13, ?a14, ?a15, ?a16, ?a17, ?a18, ?a19, ?a20, ?a21, trivial⟩
      case a0 =>
        exact st4_val _ rfl (.inl rfl) fun a u hb hA hd => by
          have q0 := ev_of (show a.eval (.tmp 0) = (.slice (some ⟨b, o, none⟩) 32 c) from hA.eval 0 rfl)
          unfold execOp
          simp [go_sem, q0]
      case a1 =>
        exact st4_val _ rfl (.inl rfl) fun a u hb hA hd => by
          have q0 := ev_of (show a.eval (.tmp 7) = (.int .i64 (k : Nat)) from hA.eval 7 rfl)
          unfold execOp
          simp [go_sem, q0]
      case a2 =>
        exact st4_val _ rfl (.inl rfl) fun a u hb hA hd => run_mulI rfl 4 k rfl (hd 1 73 rfl rfl _ rfl) (by have := HK3.out; omega)
      case a3 =>
        exact st4_val _ rfl (.inl rfl) fun a u hb hA hd => run_addI rfl 12 (4 * k) rfl (hd 2 74 rfl rfl _ rfl) (by have := HK3.out; omega)
      case a4 =>
        exact st4_val _ rfl (.inl rfl) fun a u hb hA hd => by
          have q0 := ev_of (show a.eval (.tmp 7) = (.int .i64 (k : Nat)) from hA.eval 7 rfl)
          unfold execOp
          simp [go_sem, q0]
      case a5 =>
        exact st4_val _ rfl (.inl rfl) fun a u hb hA hd => run_mulI rfl 4 k rfl (hd 4 76 rfl rfl _ rfl) (by have := HK3.out; omega)
      case a6 =>
        exact st4_val _ rfl (.inl rfl) fun a u hb hA hd => run_addI rfl 13 (4 * k) rfl (hd 5 77 rfl rfl _ rfl) (by have := HK3.out; omega)
      case a7 =>
        exact st4_val _ rfl (.inl rfl) fun a u hb hA hd => run_slice2 rfl b o 32 c (12 + 4 * k) 1 (hd 0 72 rfl rfl _ rfl) (hd 3 75 rfl rfl _ rfl) (by
          rw [show a.eval (.tmp 78) = .int .i64 ((13 + 4 * k : Nat) : Int) from hd 6 78 rfl rfl _ rfl]
          rw [show 12 + 4 * k + 1 = 13 + 4 * k by omega]) (by have := HK3.out; omega) (by decide)
      case a8 =>
        exact st4_val _ rfl (.inl rfl) fun a u hb hA hd => by
          have q0 := ev_of (show a.eval (.tmp 0) = (.slice (some ⟨b, o, none⟩) 32 c) from hA.eval 0 rfl)
          unfold execOp
          simp [go_sem, q0]
      case a9 =>
        exact st4_val _ rfl (.inl rfl) fun a u hb hA hd => by
          have q0 := ev_of (show a.eval (.tmp 7) = (.int .i64 (k : Nat)) from hA.eval 7 rfl)
          unfold execOp
          simp [go_sem, q0]
      case a10 =>
        exact st4_val _ rfl (.inl rfl) fun a u hb hA hd => run_mulI rfl 4 k rfl (hd 9 81 rfl rfl _ rfl) (by have := HK3.out; omega)
      case a11 =>
        exact st4_val _ rfl (.inl rfl) fun a u hb hA hd => run_addI rfl 13 (4 * k) rfl (hd 10 82 rfl rfl _ rfl) (by have := HK3.out; omega)
      case a12 =>
        exact st4_val _ rfl (.inl rfl) fun a u hb hA hd => run_iaddrT rfl b o 32 c (13 + 4 * k) (hd 8 80 rfl rfl _ rfl) (hd 11 83 rfl rfl _ rfl) (by have := HK3.out; omega)
      case a13 =>
        exact st4_val _ rfl (.inl rfl) fun a u hb hA hd => run_load64 rfl _ _ (hd 12 84 rfl rfl _ rfl) (HCW.out u (HON.out.trans (hb.mono HON.out.size)))
      case a14 =>
        refine st4_call _ rfl (.inl rfl) 70 fun a u hb hA hd => ?_
        have k0 := ev_of (show a.eval (.tmp 85) = .int .u64 (y1 : Nat) from hd 13 85 rfl rfl _ rfl)
        refine ⟨#[.int .u64 (y1 : Nat), .int .i64 0, .int .i64 8], ?_, (HFA.out u).mono ?_⟩
        · unfold execOp
          simp [go_sem, k0]
        · rintro e w' ⟨rfl, rfl⟩
          exact ⟨_, rfl, rfl, Below.refl _ _⟩
      case a15 =>
        exact st4_val _ rfl (.inl rfl) fun a u hb hA hd => by
          have q0 := ev_of (hd 14 86 rfl rfl _ rfl)
          unfold execOp
          simp [go_sem, q0, wn1]
      case a16 =>
        refine st4_call _ rfl (.inl rfl) 72 fun a u hb hA hd => ?_
        have k0 := ev_of (show a.eval (.tmp 79) = .slice (some ⟨b, o + (12 + 4 * k), none⟩) 1 (c - (12 + 4 * k)) from hd 7 79 rfl rfl _ rfl)
        have k1 := ev_of (show a.eval (.tmp 87) = .int .i64 (n1 : Nat) from hd 15 87 rfl rfl _ rfl)
        refine ⟨#[.slice (some ⟨b, o + (12 + 4 * k), none⟩) 1 (c - (12 + 4 * k)), .int .i64 (n1 : Nat)], ?_, (HCT.out u (HRA.out u (HON.out.trans (hb.mono HON.out.size)))).mono ?_⟩
        · unfold execOp
          simp [go_sem, k0, k1]
        · rintro e w' ⟨rfl, hb'⟩
          exact ⟨_, rfl, rfl, hb'⟩
      case a17 => exact st4_move 16 88 rfl (.inl rfl) rfl rfl rfl
      case a18 =>
        exact st4_val _ rfl (.inl rfl) fun a u hb hA hd => by
          have q0 := ev_of (hd 17 71 rfl rfl _ rfl)
          unfold execOp
          simp [go_sem, q0, Instr.extract]
      case a19 =>
        exact st4_val _ rfl (.inl rfl) fun a u hb hA hd => by
          have q0 := ev_of (hd 17 71 rfl rfl _ rfl)
          unfold execOp
          simp [go_sem, q0, Instr.extract]
      case a20 => exact st4_assign 18 89 rfl (.inl rfl) rfl rfl rfl
      case a21 => exact st4_assign 19 90 rfl (.inl rfl) rfl rfl rfl
    case arest =>
    intro vs u4 hb hR
    have ev20 : vs 20 = .string s1 := hR 20 (by decide)
    have ev21 : vs 21 = .int .i64 t1 := hR 21 (by decide)
    simp only [putsFrom, Act.put, List.setIfInBounds_toArray, List.set_cons_succ, List.set_cons_zero, ev20, ev21]
    generalize vs 0 = z0
    generalize vs 1 = z1
    generalize vs 2 = z2
    generalize vs 3 = z3
    generalize vs 4 = z4
    generalize vs 5 = z5
    generalize vs 6 = z6
    generalize vs 7 = z7
    generalize vs 8 = z8
    generalize vs 9 = z9
    generalize vs 10 = z10
    generalize vs 11 = z11
    generalize vs 12 = z12
    generalize vs 13 = z13
    generalize vs 14 = z14
    generalize vs 15 = z15
    generalize vs 16 = z16
    generalize vs 17 = z17
    generalize vs 18 = z18
    generalize vs 19 = z19
    have hK4 := Lib.hid (hK.out.to hb)
    have HON4 := Lib.hid (HONF.out hK4.out)
    clear hb hR ev20 ev21 hK HON HFA HCT HRA wn1
    go_upto_region 11 with (fail)
    refine wp_region4 [.val (.slice (some ⟨b, o, none⟩) 32 c), .val (.int .i64 (k : Nat)), .val (.int .i64 (4 * k : Nat)), .val (.int .i64 (14 + 4 * k : Nat)), .val (.int .i64 (k : Nat)), .val (.int .i64 (4 * k : Nat)), .val (.int .i64 (16 + 4 * k : Nat)), .val (.slice (some ⟨b, o + (14 + 4 * k), none⟩) 2 (c - (14 + 4 * k))), .val (.slice (some ⟨b, o, none⟩) 32 c), .val (.int .i64 (k : Nat)), .val (.int .i64 (4 * k : Nat)), .val (.int .i64 (13 + 4 * k : Nat)), .val (.pointer (some ⟨b, o + (13 + 4 * k), none⟩)), .val (.int .u64 (y1 : Nat)), .val (.int .u64 (n2 : Nat)), .val (.int .i64 (n2 : Nat)), .val (.tuple #[.string s2, .int .i64 t2]), .val (.tuple #[.string s2, .int .i64 t2]), .val (.string s2), .val (.int .i64 t2), .val (.string s2), .val (.int .i64 t2)] (by kernel_rfl) (by kernel_rfl) (by kernel_rfl) ?csteps ?crest
    case csteps =>
      refine ⟨?c0, ?c1, ?c2, ?c3, ?c4, ?c5, ?c6, ?c7, ?c8, ?c9, ?c10, ?c11, ?c12, ?c13, ?c14, ?c15, ?c16, ?c17, ?c18, ?c19, ?c20, ?c21, trivial⟩
      case c0 =>
        exact st4_val _ rfl (.inl rfl) fun a u hb hA hd => by
          have q0 := ev_of (show a.eval (.tmp 0) = (.slice (some ⟨b, o, none⟩) 32 c) from hA.eval 0 rfl)
          unfold execOp
          simp [go_sem, q0]
      case c1 =>
        exact st4_val _ rfl (.inl rfl) fun a u hb hA hd => by
          have q0 := ev_of (show a.eval (.tmp 7) = (.int .i64 (k : Nat)) from hA.eval 7 rfl)
          unfold execOp
          simp [go_sem, q0]
      case c2 =>
        exact st4_val _ rfl (.inl rfl) fun a u hb hA hd => run_mulI rfl 4 k rfl (hd 1 93 rfl rfl _ rfl) (by have := HK3.out; omega)
      case c3 =>
        exact st4_val _ rfl (.inl rfl) fun a u hb hA hd => run_addI rfl 14 (4 * k) rfl (hd 2 94 rfl rfl _ rfl) (by have := HK3.out; omega)
      case c4 =>
        exact st4_val _ rfl (.inl rfl) fun a u hb hA hd => by
          have q0 := ev_of (show a.eval (.tmp 7) = (.int .i64 (k : Nat)) from hA.eval 7 rfl)
          unfold execOp
          simp [go_sem, q0]
      case c5 =>
        exact st4_val _ rfl (.inl rfl) fun a u hb hA hd => run_mulI rfl 4 k rfl (hd 4 96 rfl rfl _ rfl) (by have := HK3.out; omega)
      case c6 =>
        exact st4_val _ rfl (.inl rfl) fun a u hb hA hd => run_addI rfl 16 (4 * k) rfl (hd 5 97 rfl rfl _ rfl) (by have := HK3.out; omega)
      case c7 =>
        exact st4_val _ rfl (.inl rfl) fun a u hb hA hd => run_slice2 rfl b o 32 c (14 + 4 * k) 2 (hd 0 92 rfl rfl _ rfl) (hd 3 95 rfl rfl _ rfl) (by
          rw [show a.eval (.tmp 98) = .int .i64 ((16 + 4 * k : Nat) : Int) from hd 6 98 rfl rfl _ rfl]
          rw [show 14 + 4 * k + 2 = 16 + 4 * k by omega]) (by have := HK3.out; omega) (by decide)
      case c8 =>
        exact st4_val _ rfl (.inl rfl) fun a u hb hA hd => by
          have q0 := ev_of (show a.eval (.tmp 0) = (.slice (some ⟨b, o, none⟩) 32 c) from hA.eval 0 rfl)
          unfold execOp
          simp [go_sem, q0]
      case c9 =>
        exact st4_val _ rfl (.inl rfl) fun a u hb hA hd => by
          have q0 := ev_of (show a.eval (.tmp 7) = (.int .i64 (k : Nat)) from hA.eval 7 rfl)
          unfold execOp
          simp [go_sem, q0]
      case c10 =>
        exact st4_val _ rfl (.inl rfl) fun a u hb hA hd => run_mulI rfl 4 k rfl (hd 9 101 rfl rfl _ rfl) (by have := HK3.out; omega)
      case c11 =>
        exact st4_val _ rfl (.inl rfl) fun a u hb hA hd => run_addI rfl 13 (4 * k) rfl (hd 10 102 rfl rfl _ rfl) (by have := HK3.out; omega)
      case c12 =>
        exact st4_val _ rfl (.inl rfl) fun a u hb hA hd => run_iaddrT rfl b o 32 c (13 + 4 * k) (hd 8 100 rfl rfl _ rfl) (hd 11 103 rfl rfl _ rfl) (by have := HK3.out; omega)
      case c13 =>
        exact st4_val _ rfl (.inl rfl) fun a u hb hA hd => run_load64 rfl _ _ (hd 12 104 rfl rfl _ rfl) (HCW.out u (HON4.out.trans (hb.mono HON4.out.size)))
      case c14 =>
        refine st4_call _ rfl (.inl rfl) 70 fun a u hb hA hd => ?_
        have k0 := ev_of (show a.eval (.tmp 105) = .int .u64 (y1 : Nat) from hd 13 105 rfl rfl _ rfl)
        refine ⟨#[.int .u64 (y1 : Nat), .int .i64 8, .int .i64 8], ?_, (HFB.out u).mono ?_⟩
        · unfold execOp
          simp [go_sem, k0]
        · rintro e w' ⟨rfl, rfl⟩
          exact ⟨_, rfl, rfl, Below.refl _ _⟩
      case c15 =>
        exact st4_val _ rfl (.inl rfl) fun a u hb hA hd => by
          have q0 := ev_of (hd 14 106 rfl rfl _ rfl)
          unfold execOp
          simp [go_sem, q0, wn2]
      case c16 =>
        refine st4_call _ rfl (.inl rfl) 72 fun a u hb hA hd => ?_
        have k0 := ev_of (show a.eval (.tmp 99) = .slice (some ⟨b, o + (14 + 4 * k), none⟩) 2 (c - (14 + 4 * k)) from hd 7 99 rfl rfl _ rfl)
        have k1 := ev_of (show a.eval (.tmp 107) = .int .i64 (n2 : Nat) from hd 15 107 rfl rfl _ rfl)
        refine ⟨#[.slice (some ⟨b, o + (14 + 4 * k), none⟩) 2 (c - (14 + 4 * k)), .int .i64 (n2 : Nat)], ?_, (HCV.out u (HRB.out u (HON4.out.trans (hb.mono HON4.out.size)))).mono ?_⟩
        · unfold execOp
          simp [go_sem, k0, k1]
        · rintro e w' ⟨rfl, hb'⟩
          exact ⟨_, rfl, rfl, hb'⟩
      case c17 => exact st4_move 16 108 rfl (.inl rfl) rfl rfl rfl
      case c18 =>
        exact st4_val _ rfl (.inl rfl) fun a u hb hA hd => by
          have q0 := ev_of (hd 17 91 rfl rfl _ rfl)
          unfold execOp
          simp [go_sem, q0, Instr.extract]
      case c19 =>
        exact st4_val _ rfl (.inl rfl) fun a u hb hA hd => by
          have q0 := ev_of (hd 17 91 rfl rfl _ rfl)
          unfold execOp
          simp [go_sem, q0, Instr.extract]
      case c20 => exact st4_assign 18 109 rfl (.inl rfl) rfl rfl rfl
      case c21 => exact st4_assign 19 110 rfl (.inl rfl) rfl rfl rfl
    case crest =>
    intro vs u5 hb hR
    have ev20 : vs 20 = .string s2 := hR 20 (by decide)
    have ev21 : vs 21 = .int .i64 t2 := hR 21 (by decide)
    simp only [putsFrom, Act.put, List.setIfInBounds_toArray, List.set_cons_succ, List.set_cons_zero, ev20, ev21]
    generalize vs 0 = z0
    generalize vs 1 = z1
    generalize vs 2 = z2
    generalize vs 3 = z3
    generalize vs 4 = z4
    generalize vs 5 = z5
    generalize vs 6 = z6
    generalize vs 7 = z7
    generalize vs 8 = z8
    generalize vs 9 = z9
    generalize vs 10 = z10
    generalize vs 11 = z11
    generalize vs 12 = z12
    generalize vs 13 = z13
    generalize vs 14 = z14
    generalize vs 15 = z15
    generalize vs 16 = z16
    generalize vs 17 = z17
    generalize vs 18 = z18
    generalize vs 19 = z19
    have hK5 := Lib.hid (hK4.out.to hb)
    have HR5 := Lib.hid (HRRA.out hK5.out)
    clear hb hR ev20 ev21 hK4 HON4 HFB HCV HRB wn2 HCW
    by_cases h1 : n1 ≤ 8
    case neg =>
      have e1 : t1 = 2 := by rw [← HT1.out]; exact txtE_no (fun h => h1 (by have := h.2; simp at this; omega))
      have HV : Hid (badA l = some 1) := Lib.hid (bad_len HMK.out HOB.out (by rw [HCN.out]; exact hkm) (.inl (by rw [H1.out, HN1.out]; omega)))
      subst e1
      clear HT1 h1 bn1 bn2 hkm hk hk3
      go_wp2_with (first
        | (refine wpList_buildTo rfl 28 #[] rfl (some 117) rfl zA (by simpa using built_zA) ?_)
        | (refine wpList_store_rowTo rfl 28 (.tmp 2) (.tmp 117) rfl rfl w.heap.size zA rfl rfl 28 _ HR5.out.res attr_size rfl zA_one ?_)
        | (refine wpList_store_rowTo rfl 60 (.tmp 3) (.tmp 118) rfl rfl (w.heap.size + 1) #[.int .i64 1, .int .i64 7] rfl rfl 60 _ (HR5.out.flt2 zA) fault_size rfl (two_one _ _) ?_))
      obtain ⟨q1, q2, q3⟩ := HR5.out.fin zA 1 7
      exact bodyPost_ret (v := .tuple #[.agg zA, .agg #[.int .i64 1, .int .i64 7]]) (rra_results q1 attr_size q2 rfl rfl) rfl ⟨alieZ, by rw [HV.out, attA_bad HV.out]; rfl, by rw [attA_bad HV.out]; exact alies_Z _, q3⟩
    case pos =>
    have e1 : t1 = 0 := by rw [← HT1.out]; exact txtE_yes ⟨by omega, by simp; omega⟩
    subst e1
    by_cases h2 : n2 ≤ 16
    case neg =>
      have e2 : t2 = 2 := by rw [← HT2.out]; exact txtE_no (fun h => h2 (by have := h.2; simp at this; omega))
      have HV : Hid (badA l = some 1) := Lib.hid (bad_len HMK.out HOB.out (by rw [HCN.out]; exact hkm) (.inr (by rw [H1.out, HN2.out]; omega)))
      subst e2
      clear HT2 h1 h2 bn1 bn2 hkm hk hk3
      go_wp2_with (first
        | (refine wpList_buildTo rfl 28 #[] rfl (some 117) rfl zA (by simpa using built_zA) ?_)
        | (refine wpList_store_rowTo rfl 28 (.tmp 2) (.tmp 117) rfl rfl w.heap.size zA rfl rfl 28 _ HR5.out.res attr_size rfl zA_one ?_)
        | (refine wpList_store_rowTo rfl 60 (.tmp 3) (.tmp 118) rfl rfl (w.heap.size + 1) #[.int .i64 1, .int .i64 7] rfl rfl 60 _ (HR5.out.flt2 zA) fault_size rfl (two_one _ _) ?_))
      obtain ⟨q1, q2, q3⟩ := HR5.out.fin zA 1 7
      exact bodyPost_ret (v := .tuple #[.agg zA, .agg #[.int .i64 1, .int .i64 7]]) (rra_results q1 attr_size q2 rfl rfl) rfl ⟨alieZ, by rw [HV.out, attA_bad HV.out]; rfl, by rw [attA_bad HV.out]; exact alies_Z _, q3⟩
    case pos =>
    have e2 : t2 = 0 := by rw [← HT2.out]; exact txtE_yes ⟨by omega, by simp; omega⟩
    subst e2
    have HL2 : Hid (LensOk l (k + 1)) := Lib.hid (fun j hj => by
      by_cases hjk : j < k
      · exact hL.out j hjk
      · obtain rfl : j = k := by omega
        rw [H1.out, HN1.out, HN2.out]
        exact ⟨h1, h2⟩)
    have HX : Hid (rdX l k = ⟨s1, s2⟩) := Lib.hid (by
      rw [← HS1.out, ← HS2.out, txtV_txtB _ _ (by simpa using h1), txtV_txtB _ _ (by simpa using h2), ← HN1.out, ← HN2.out, ← H0.out, ← H1.out, ← H2.out, ← H3.out]
      rfl)
    have hk4' : k + 1 ≤ min n0 4 := by omega
    clear h1 h2 bn1 bn2 hL HT1 HT2 HS1 HS2 HN1 HN2 H0 H1 H2 H3
    have hlen := rdK_len l k
    have y18 := hK5.out.bt.c18
    have hox := hK5.out.xs.1
    rw [hlen] at y18 hox
    have hbe : Below u5.heap.size u5 (u5.alloc (.cells #[.string s1, .string s2] 52)) := (Below.refl _ _).alloc (Nat.le_refl _) _
    have HOW : Hid (OwnR (u5.alloc (.cells #[.string s1, .string s2] 52)) 52 2 q.X k q.n (xv (rdK l k).xs)) := Lib.hid (hox.keep fun ad e => hbe.block _ (hox.lt ad e))
    have HNW : Hid (∀ j u, ([.string s1, .string s2] : List Value)[j]? = some u → (u5.alloc (.cells #[.string s1, .string s2] 52)).cell? ((⟨u5.heap.size, 0, none⟩ : Addr).add j) = some u) := Lib.hid (fun j u hu => by
      rw [add_zero_block, cell_of_row _ _ _ _ _ _ (heap_alloc_new u5 _)]
      simpa using hu)
    have hone : ∀ u ∈ ([.string s1, .string s2] : List Value), u.oneCell' = true := by intro u hu; simp at hu; rcases hu with rfl | rfl <;> rfl
    clear hox hbe hlen
    go_wp2_with (at_builtin; refine wpList_append_r rfl (.tmp 120) (.tmp 124) 26 rfl 52 i0 _ 2 32 Tryz.underlying26 HI.out HZ.out HS.out HB.out rfl q.X k q.n (xv (rdK l k).xs) rfl HOW.out ⟨u5.heap.size, 0, none⟩ 1 1 [.string s1, .string s2] rfl rfl HNW.out hone (by decide) (by unfold maxLen; omega) (by omega) ?_; intro gA c1 w4 hA hgr hor; obtain ⟨hOn, hge4, hb4⟩ := hK5.out.grow hgr hor; have y18 := hb4.c18; have f18 := hb4.frozen 18; have HA4 := Lib.hid hA; have HON5 := Lib.hid hOn; have HG4 := Lib.hid hge4; clear hA hgr hor hOn hge4 hb4)
    have hm := hK5.out.more (y := rdK l (k + 1)) (z := ⟨s1, s2⟩) (c := c1) (gA := gA) HON5.out (by rw [rdK_len]; exact HA4.out) HG4.out (by rw [← HX.out, ← rdK_step]; rfl)
    rw [rdK_len] at hm
    have HM := Lib.hid hm
    clear hm
    go_roundw
    case rel => exact ⟨k + 1, by go_num, hk4', HL2, _, HM⟩
    case measure => simp [intOf]; omega
  case neg =>
  have hkk : k = min n0 4 := by omega
  have HBR : Hid ((amayB (rdAt l) = true ∧ sealed (atL (rdAt l)) = l ∧ badA l = none ∧ attA l = rdAt l) ∨ ((amayB (rdAt l) = false ∨ sealed (atL (rdAt l)) ≠ l) ∧ badA l = some 1)) := Lib.hid (bad_rest HMK.out HOB.out (by rw [HCN.out, ← hkk]; exact hL.out))
  have HAK : Hid (AtK w2 wr g (rdAt l) q) := Lib.hid (by rw [← rdK_all, HCN.out, ← hkk]; exact hK.out)
  have HNU := Lib.hid (rdAt_num l)
  have HSM := Lib.hid (rdAt_sm l)
  have HKS := Lib.hid (rdAt_key (l := l))
  obtain ⟨x, hx⟩ : ∃ x, rdAt l = x := ⟨_, rfl⟩
  rw [hx] at HBR HAK HNU HSM HKS
  clear hx hL hK HMK HOB HCN
  by_cases h4 : n0 < 4
  case' pos =>
    obtain rfl : k = n0 := by omega
    have hd1 : decide ((k : Int) < (k : Int)) = false := by rw [decide_eq_false_iff_not]; omega
    have hd2 : decide ((k : Int) < 4) = true := by rw [decide_eq_true_eq]; omega
    clear hkk hkm hk
    go_wp2_with (fail)
    refine (HFN.out _).mono ?_
    rintro e u3 ⟨rfl, rfl⟩
    go_upto_region 15 with (fail)
  case' neg =>
    obtain rfl : k = 4 := by omega
    have hd1 : decide ((4 : Int) < (n0 : Int)) = (decide (4 < n0)) := by rw [Bool.eq_iff_iff, decide_eq_true_eq, decide_eq_true_eq]; omega
    have hd2 : decide (((4 : Nat) : Int) < 4) = false := by decide
    obtain ⟨bn, hbn⟩ : ∃ bn, decide (4 < n0) = bn := ⟨_, rfl⟩
    rw [hbn] at hd1
    clear hkk hkm hk hbn
    go_wp2_with (fail)
    refine (HFN.out _).mono ?_
    rintro e u3 ⟨rfl, rfl⟩
    go_upto_region 15 with (fail)
  all_goals
    have HRU := Lib.hid (HR1.out.below (HONF.out HAK.out))
    obtain ⟨m, hm⟩ : ∃ m, amayB x = m := ⟨_, rfl⟩
    have cm := ramay_calls x q u3 HAK.out.lies HSM.out HKS.out
    rw [hm] at cm
    have CM := Lib.hid cm
    have HMM := Lib.hid hm
    clear hm cm cell0 HON hd1 hd2 HFN
    go_wp2_with (refine wpList_load_part rfl 28 (.tmp 6) rfl g 0 rfl (x.c q).toList _ HAK.out.bt.bt0 Tryz.underlying28 rfl attr_size (x.v q) rfl ?_)
    refine CM.out.mono ?_
    rintro e w5 ⟨rfl, hb⟩
    have HAK5 := Lib.hid (HAK.out.to hb)
    have R5 := Lib.hid (HRRA.out HAK5.out)
    have HRU5 := Lib.hid (HRU.out.below hb)
    clear hb CM HAK HRU
    cases m
    case false =>
      have HV : Hid (badA l = some 1) := Lib.hid (by
        rcases HBR.out with h | h
        · rw [HMM.out] at h; exact absurd h.1 (by decide)
        · exact h.2)
      go_wp2_with (first
        | (refine wpList_buildTo rfl 28 #[] rfl (some 137) rfl zA (by simpa using built_zA) ?_)
        | (refine wpList_store_rowTo rfl 28 (.tmp 2) (.tmp 137) rfl rfl w.heap.size zA rfl rfl 28 _ R5.out.res attr_size rfl zA_one ?_)
        | (refine wpList_store_rowTo rfl 60 (.tmp 3) (.tmp 138) rfl rfl (w.heap.size + 1) #[.int .i64 1, .int .i64 7] rfl rfl 60 _ (R5.out.flt2 zA) fault_size rfl (two_one _ _) ?_))
      obtain ⟨q1, q2, q3⟩ := R5.out.fin zA 1 7
      exact bodyPost_ret (v := .tuple #[.agg zA, .agg #[.int .i64 1, .int .i64 7]]) (rra_results q1 attr_size q2 rfl rfl) rfl ⟨alieZ, by rw [HV.out, attA_bad HV.out]; rfl, by rw [attA_bad HV.out]; exact alies_Z _, q3⟩
    case true =>
    have ce := rencode_calls x q w5 HAK5.out.lies (fit_of HMM.out HNU.out) (key_pos HMM.out)
    have CE := Lib.hid ce
    clear ce
    go_wp2_with (refine wpList_load_part rfl 28 (.tmp 6) rfl g 0 rfl (x.c q).toList _ HAK5.out.bt.bt0 Tryz.underlying28 rfl attr_size (x.v q) rfl ?_)
    refine CE.out.mono ?_
    rintro e w6 ⟨A6, c6, rfl, hr, hb⟩
    have HAK6 := Lib.hid (HAK5.out.to hb)
    have cs := same_calls A6 (some ⟨b, o, none⟩) (sealed (atL x)) l c6 c w6 hr (HRU5.out.below hb) (by rw [sealed_len]; decide) (by rw [H32.out]; decide)
    obtain ⟨sm, hsm⟩ : ∃ sm, sameV (sealed (atL x)) l = sm := ⟨_, rfl⟩
    rw [sealed_len, H32.out, hsm] at cs
    have CS := Lib.hid cs
    have HSV := Lib.hid hsm
    clear cs hsm hr hb HAK5 HRU5 CE R5
    go_wp2_with (fail)
    refine CS.out.mono ?_
    rintro e w7 ⟨rfl, hq⟩
    have hb7 : Below w6.heap.size w6 w7 := by
      obtain ⟨mm, rfl⟩ := hq
      exact below_drewN (Below.refl _ _) mm
    have HAK7 := Lib.hid (HAK6.out.to hb7)
    have R7 := Lib.hid (HRRA.out HAK7.out)
    clear hb7 hq CS HAK6
    cases sm
    case false =>
      have HV : Hid (badA l = some 1) := Lib.hid (by
        rcases HBR.out with h | h
        · have e := HSV.out
          unfold sameV at e
          exact absurd h.2.1 (of_decide_eq_false e)
        · exact h.2)
      go_wp2_with (first
        | (refine wpList_buildTo rfl 28 #[] rfl (some 137) rfl zA (by simpa using built_zA) ?_)
        | (refine wpList_store_rowTo rfl 28 (.tmp 2) (.tmp 137) rfl rfl w.heap.size zA rfl rfl 28 _ R7.out.res attr_size rfl zA_one ?_)
        | (refine wpList_store_rowTo rfl 60 (.tmp 3) (.tmp 138) rfl rfl (w.heap.size + 1) #[.int .i64 1, .int .i64 7] rfl rfl 60 _ (R7.out.flt2 zA) fault_size rfl (two_one _ _) ?_))
      obtain ⟨q1, q2, q3⟩ := R7.out.fin zA 1 7
      exact bodyPost_ret (v := .tuple #[.agg zA, .agg #[.int .i64 1, .int .i64 7]]) (rra_results q1 attr_size q2 rfl rfl) rfl ⟨alieZ, by rw [HV.out, attA_bad HV.out]; rfl, by rw [attA_bad HV.out]; exact alies_Z _, q3⟩
    case true =>
    have HV : Hid (badA l = none ∧ attA l = x) := Lib.hid (by
      rcases HBR.out with h | h
      · exact h.2.2
      · have e := HSV.out
        unfold sameV at e
        rcases h.1 with h1 | h1
        · rw [HMM.out] at h1; cases h1
        · exact absurd (of_decide_eq_true e) h1)
    obtain ⟨C, hC⟩ : ∃ C, C = x.c q := ⟨_, rfl⟩
    have hone : C.all (·.oneCell') = true := by rw [hC]; exact c_one x q
    have hsz : (Tryz.prog.info? 28).map (·.size) = some C.size := by rw [hC]; exact c_size x q
    have hold : (zA : Array Value).size = C.size := by rw [hC]; rfl
    have hszl : (Tryz.prog.info? 28).map (·.size) = some C.toList.length := by rw [Array.length_toList]; exact hsz
    have hbt : ∀ j u, C.toList[j]? = some u → w7.cell? ⟨g, 0 + j, none⟩ = some u := by rw [hC]; exact HAK7.out.bt.bt0
    have HBT := Lib.hid hbt
    have HCC := Lib.hid hC
    clear hbt hC
    go_wp2_with (first
      | (refine wpList_load_part rfl 28 (.tmp 6) rfl g 0 rfl C.toList _ HBT.out Tryz.underlying28 rfl hszl (.agg C) (by simp) ?_)
      | (refine wpList_store_rowTo rfl 28 (.tmp 2) (.tmp 139) rfl rfl w.heap.size C rfl rfl 28 _ R7.out.res hsz hold hone ?_)
      | (refine wpList_store_rowTo rfl 60 (.tmp 3) (.tmp 140) rfl rfl (w.heap.size + 1) #[.int .i64 0, .int .i64 0] rfl rfl 60 _ (R7.out.flt2 C) fault_size rfl (two_one _ _) ?_))
    obtain ⟨q1, q2, q3⟩ := R7.out.fin C 0 0
    have li := ALies.fin R7.out HAK7.out.li.1 HAK7.out.li.2 HAK7.out.xs (by have := HGW.out; have := HAK7.out.lt; omega) C 0 0
    exact bodyPost_ret (v := .tuple #[.agg C, .agg #[.int .i64 0, .int .i64 0]]) (rra_results q1 hsz q2 rfl rfl) rfl ⟨q, by rw [HV.out.1, HV.out.2, HCC.out]; rfl, by rw [HV.out.2]; exact li, q3⟩
end Go.Proofs.YtlejmpinfbmccaaGreatDoor
