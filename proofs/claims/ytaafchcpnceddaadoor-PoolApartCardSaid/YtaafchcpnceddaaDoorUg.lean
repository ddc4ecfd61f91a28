/- The program's Take: the lowest numbers that are free, by a range over a function. -/
import Derived.Test.YtaafchcpnceddaaDoorUe
import Derived.Test.YtaafchcpnceddaaDoorUc
import Derived.Test.YtaafchcpnceddaaDoorGx
import Derived.BigRegion
set_option linter.unusedSimpArgs false
set_option linter.unusedVariables false
namespace Go.Proofs.YtaafchcpnceddaaDoor
open Go.RowKit Go.Shelf WordMath
attribute [local go_sem] Oper.semAt_some
theorem TabAt.below {w w' : World} (h : TabAt w) (hb : Below w.heap.size w w') : TabAt w' := fun j hj => by
  have h1 := h j hj
  rw [← h1]
  refine hb.cell (p := ⟨0, j, none⟩) ?_
  rcases Nat.lt_or_ge 0 w.heap.size with h2 | h2
  · exact h2
  · exfalso
    have : w.heap[0]? = none := Array.getElem?_eq_none h2
    simp [World.cell?, this] at h1
/-- The three cells that the program's Take begins with. -/
def tkW (w : World) (k : Int) : World := ((w.alloc (.cells #[.int .i64 k] 3)).alloc (.cells #[.slice none 0 0] 25)).alloc (.cells #[.slice none 0 0] 22)
theorem tkW_below (w : World) (k : Int) : Below w.heap.size w (tkW w k) := ((on_alloc2 w _).alloc (by rw [World.size_alloc]; omega) _).alloc (by rw [World.size_alloc, World.size_alloc]; omega) _
theorem tkW_size (w : World) (k : Int) : (tkW w k).heap.size = w.heap.size + 3 := by unfold tkW; rw [World.size_alloc, World.size_alloc, World.size_alloc]
theorem tkW_boxes (w : World) (k : Int) : Boxed (tkW w k) w.heap.size 3 (.int .i64 k) ∧ Boxed (tkW w k) (w.heap.size + 1) 25 (.slice none 0 0) ∧ Boxed (tkW w k) (w.heap.size + 2) 22 (.slice none 0 0) := by
  refine ⟨((Boxed.new w _ _).alloc _).alloc _, ?_, ?_⟩
  · have := (Boxed.new (w.alloc (.cells #[.int .i64 k] 3)) 25 (.slice none 0 0)).alloc (.cells #[.slice none 0 0] 22)
    rwa [World.size_alloc] at this
  · have := Boxed.new ((w.alloc (.cells #[.int .i64 k] 3)).alloc (.cells #[.slice none 0 0] 25)) 22 (.slice none 0 0)
    rwa [World.size_alloc, World.size_alloc] at this
theorem res_take {T : Array Value} {W : World} {g h : Nat} {u v x : Value} (h6 : T.getD 6 undef = .pointer (some ⟨g, 0, none⟩)) (h7 : T.getD 7 undef = .pointer (some ⟨h, 0, none⟩)) (h8 : T.getD 8 undef = x) (hg : Boxed W g 25 u) (hh : Boxed W h 22 v) :
    (results Tryd.f10 T).run Tryd.prog W = .ok (.tuple #[u, v, x]) W := by
  have c1 := hg.cell
  have c2 := hh.cell
  have h6' : T[6]?.getD undef = .pointer (some ⟨g, 0, none⟩) := by rw [← h6]; exact (Array.getD_eq_getD_getElem? ..).symm
  have h7' : T[7]?.getD undef = .pointer (some ⟨h, 0, none⟩) := by rw [← h7]; exact (Array.getD_eq_getD_getElem? ..).symm
  have h8' : T[8]?.getD undef = x := by rw [← h8]; exact (Array.getD_eq_getD_getElem? ..).symm
  simp [results, Tryd.results10, go_sem, h6', h7', h8', c1, c2]
/-- What the operations ahead of the two stores leave. -/
def TkR (B : Nat) (K : Nat) (va : Value) (l : List Nat) : Nat → Value → World → Prop
  | 0, v, _ => v = .int .i64 (K : Int)
  | 1, v, u => ∃ g, v = .slice (some ⟨g, 0, none⟩) 0 K ∧ B ≤ g ∧ OwnR u 3 1 (some ⟨g, 0, none⟩) 0 K []
  | 2, v, _ => v = va
  | 3, v, u => ∃ g, v = .slice (some ⟨g, 0, none⟩) l.length l.length ∧ B ≤ g ∧ Blk 38 u g l
  | _, _, _ => True
theorem TkR.stable {B K : Nat} {va : Value} {l : List Nat} {i : Nat} {v : Value} {u u' : World} (h : TkR B K va l i v u) (hb : On u u') : TkR B K va l i v u' := by
  match i with
  | 0 => exact h
  | 1 =>
    obtain ⟨g, e, hg, ho⟩ := h
    exact ⟨g, e, hg, ho.keep fun ad e => Below.block hb _ (ho.lt ad e)⟩
  | 2 => exact h
  | 3 =>
    obtain ⟨g, e, hg, hB⟩ := h
    exact ⟨g, e, hg, hB.below hb hB.lt⟩
  | _ + 4 => trivial
/-- Between two rounds. -/
structure TI (l : List Nat) (s K : Nat) (w : World) (pre : List (Gp l)) (W : World) (G : Nat) (cg r : Nat) : Prop where
  bk : Boxed W s 3 (.int .i64 (K : Int))
  bg : Boxed W (s + 1) 25 (.slice (some ⟨G, 0, none⟩) pre.length cg)
  br : Boxed W (s + 2) 22 (.slice (some ⟨r, 0, none⟩) l.length l.length)
  og : OwnR W 3 1 (some ⟨G, 0, none⟩) pre.length cg (iv (up (gnums pre)))
  ob : Blk 38 W r (onsL l (gnums pre))
  hG : s + 3 ≤ G
  hr : s + 3 ≤ r
  le : pre.length ≤ K
  bw : Below s w W
theorem kept_cells {B : Nat} {W W' : World} {row : Option Nat} (hg : W.grownBy W' row) (hr : ∀ r, row = some r → B ≤ r ∧ ∃ o : Obj, W.heap[r]? = some o ∧ o.isCells = false) {b : Nat} {cs : Array Value} {t : TypeId} {f : Nat × Nat} (h : W.heap[b]? = some (.cells cs t f)) : W'.heap[b]? = W.heap[b]? := by
  refine hg.block b (Array.getElem?_eq_some_iff.1 h).1 fun e => ?_
  obtain ⟨_, o, ho, hc⟩ := hr b e.symm
  rw [h] at ho
  injection ho with ho
  rw [← ho] at hc
  cases hc
theorem TI.own {l : List Nat} {s K B : Nat} {w : World} (hB : s ≤ B) (hs : s ≤ w.heap.size) : OwnFrom B (fun (pre : List (Gp l)) W => ∃ G cg r, TI l s K w pre W G cg r) := by
  rintro pre W W' row ⟨G, cg, r, h⟩ hg hr
  refine ⟨G, cg, r, ?_, ?_, ?_, ?_, ?_, h.hG, h.hr, h.le, h.bw.grown hg (Nat.le_trans hs h.bw.size) (fun k e => Nat.le_trans hB (hr k e).1)⟩
  · exact (kept_cells hg hr h.bk).trans h.bk
  · exact (kept_cells hg hr h.bg).trans h.bg
  · exact (kept_cells hg hr h.br).trans h.br
  · refine h.og.keep fun ad e => ?_
    injection e with e
    subst e
    obtain ⟨_, _, _, h4⟩ := h.og
    rcases h4 with ⟨h4, _⟩ | ⟨g, cur, h4, hc, _⟩
    · cases h4
    · injection h4 with h4
      injection h4 with h4
      subst h4
      exact kept_cells hg hr hc
  · exact (kept_cells hg hr h.ob).trans h.ob
theorem wpListIn_append_r {F : Fence} {n : Nat} {P : Program} {w : World} {ops : Array Oper} {rest : List Oper} {o : Oper} {a : Act} {Q : Exit → Act → World → Prop} (hgd : o.guard = none) (s x : Operand) (t : TypeId)
    (ho : o.op = .call { callee := .builtin .append, args := #[s, x], argTypes := #[t, t] })
    (e : TypeId) (i : TypeInfo) (z : Value) (size bytes : Nat) (ht : P.underlying t = some (.slice e)) (hi : P.info? e = some i) (hz : i.zero = some z)
    (hsize : i.size = size) (hby : i.bytes = bytes) (hzs : z.cells.size = size)
    (A : Option Addr) (k c : Nat) (xs : List Value) (hs : a.eval s = .slice A k c) (hown : OwnR w e size A k c xs)
    (ad : Addr) (m d : Nat) (news : List Value) (hx : a.eval x = .slice (some ad) m d) (hl : news.length = m * size) (hnews : ∀ j u, news[j]? = some u → w.cell? (ad.add j) = some u) (h1 : ∀ u ∈ news, u.oneCell' = true)
    (hm : 0 < m) (h63 : k + m ≤ maxLen) (hbytes : (k + m) * bytes ≤ 140737488355328)
    (h : ∀ g c' w', OwnR w' e size (some ⟨g, 0, none⟩) (k + m) c' (xs ++ news) → w.grownBy w' (A.map (·.block)) → (A = some ⟨g, 0, none⟩ ∨ g = w.heap.size) → wpListIn F n P ops Q rest (a.put o.dst (.slice (some ⟨g, 0, none⟩) (k + m) c')) w') : wpListIn F n P ops Q (o :: rest) a w := by
  refine wpListIn_plain hgd fun K hK' => ?_
  obtain ⟨g, c', w', hrun, h2, h3, h4⟩ := run_append_r (P := P) w t o.type e i z size bytes ht hi hz hsize hby hzs A k c xs hown ad m d news hl hnews h1 hm h63 hbytes
  unfold Oper.wpIn
  refine ⟨?_, ?_⟩
  · simp [Oper.about, ho, resolve, Target.leads, Sem.run_pure]
  · rw [Oper.semAt_plain F _ _ (by rw [ho]; intro c hc'; cases hc')]
    simp [execOp, ho, resolve, invoke, builtin, hs, hx, hrun, Result.andThen]
    exact hK' _ _ (h g c' w' h2 h3 h4)
theorem set_other {W : World} {p : Addr} {v : Value} {b : Nat} (h : b ≠ p.block) : (W.setCell p v).heap[b]? = W.heap[b]? := Below.heap_setCell W p v b h
/-- What the append leaves. -/
structure TA (l : List Nat) (s K : Nat) (w : World) (pre : List (Gp l)) (x : Gp l) (W w1 : World) (G cg r g' c2 : Nat) : Prop where
  bk : Boxed w1 s 3 (.int .i64 (K : Int))
  bg : Boxed w1 (s + 1) 25 (.slice (some ⟨G, 0, none⟩) pre.length cg)
  br : Boxed w1 (s + 2) 22 (.slice (some ⟨r, 0, none⟩) l.length l.length)
  og : OwnR w1 3 1 (some ⟨g', 0, none⟩) (pre ++ [x]).length c2 (iv (up (gnums (pre ++ [x]))))
  ob : Blk 38 w1 r (onsL l (gnums pre))
  hg : s + 3 ≤ g'
  ko : KeepsOthers W w1
  bw : Below s W w1
theorem TI.app {l : List Nat} {s K : Nat} {w : World} {pre : List (Gp l)} {W w1 : World} {G cg r g' c2 : Nat} {o : Obj} {x : Gp l} (h : TI l s K w pre W G cg r) (hs : s ≤ w.heap.size)
    (hown : OwnR w1 3 1 (some ⟨g', 0, none⟩) (pre.length + 1) c2 (iv (up (gnums pre)) ++ iv [((x.1 : Nat) : Int) + 1])) (hgr : (W.alloc o).grownBy w1 ((some (⟨G, 0, none⟩ : Addr)).map (·.block)))
    (hg : (some (⟨G, 0, none⟩ : Addr)) = some ⟨g', 0, none⟩ ∨ g' = (W.alloc o).heap.size) : TA l s K w pre x W w1 G cg r g' c2 := by
  have hGc : ∃ cur, W.heap[G]? = some (.cells cur 3 (0, 0)) := by
    obtain ⟨_, _, _, h4⟩ := h.og
    rcases h4 with ⟨h4, _⟩ | ⟨g, cur, h4, hc, _⟩
    · cases h4
    · injection h4 with h4
      injection h4 with h4
      subst h4
      exact ⟨cur, hc⟩
  obtain ⟨cur, hGc⟩ := hGc
  have hrG : r ≠ G := cells_type h.ob hGc (by decide)
  have hsW := Nat.le_trans hs h.bw.size
  have hsz := h.br.lt
  have keep : ∀ b, b < W.heap.size → b ≠ G → w1.heap[b]? = W.heap[b]? := fun b hb hne =>
    (hgr.block b (by rw [World.size_alloc]; omega) (fun e => by injection e with e; exact hne e)).trans (Below.heap_alloc W o b hb)
  have hG := h.hG
  refine ⟨(keep _ h.bk.lt (by omega)).trans h.bk, (keep _ h.bg.lt (by omega)).trans h.bg, (keep _ h.br.lt (by omega)).trans h.br, ?_, (keep _ h.ob.lt hrG).trans h.ob, ?_, ?_, ?_⟩
  · rw [List.length_append, gnums_snoc, up_snoc, iv_append]
    exact hown
  · rcases hg with hg | hg
    · injection hg with hg
      injection hg with hg
      omega
    · rw [hg, World.size_alloc]; omega
  · refine (KeepsOthers.alloc W o).trans (KeepsOthers.of_grownBy hgr fun j o' ej hj => ?_)
    injection ej with ej
    rw [← ej, Below.heap_alloc W o _ (Array.getElem?_eq_some_iff.1 hGc).1, hGc] at hj
    injection hj with hj
    rw [← hj]; rfl
  · exact ((Below.refl s W).alloc hsW o).grown hgr (by rw [World.size_alloc]; omega) (fun k e => by injection e with e; rw [← e]; show s ≤ G; omega)
/-- What the store and the mark leave. -/
theorem TA.next {l : List Nat} {s K : Nat} {w : World} {pre : List (Gp l)} {W w1 : World} {G cg r g' c2 : Nat} {x : Gp l} (h : TA l s K w pre x W w1 G cg r g' c2) (hT : TI l s K w pre W G cg r) (hlt : pre.length < K) :
    Boxed (w1.setCell ⟨s + 1, 0, none⟩ (.slice (some ⟨g', 0, none⟩) (pre ++ [x]).length c2)) (s + 2) 22 (.slice (some ⟨r, 0, none⟩) l.length l.length) ∧
    Blk 38 (w1.setCell ⟨s + 1, 0, none⟩ (.slice (some ⟨g', 0, none⟩) (pre ++ [x]).length c2)) r (onsL l (gnums pre)) ∧
    ∀ (B q k : Nat) (u : Value), Blk 38 (((w1.setCell ⟨s + 1, 0, none⟩ (.slice (some ⟨g', 0, none⟩) (pre ++ [x]).length c2)).drewN q).setCell ⟨r, k, none⟩ u) r (bitTo (onsL l (gnums pre)) x.1 1) →
      KeepsFrom B W (((w1.setCell ⟨s + 1, 0, none⟩ (.slice (some ⟨g', 0, none⟩) (pre ++ [x]).length c2)).drewN q).setCell ⟨r, k, none⟩ u) ∧
      Below s W (((w1.setCell ⟨s + 1, 0, none⟩ (.slice (some ⟨g', 0, none⟩) (pre ++ [x]).length c2)).drewN q).setCell ⟨r, k, none⟩ u) ∧
      TI l s K w (pre ++ [x]) (((w1.setCell ⟨s + 1, 0, none⟩ (.slice (some ⟨g', 0, none⟩) (pre ++ [x]).length c2)).drewN q).setCell ⟨r, k, none⟩ u) g' c2 r := by
  have hr := hT.hr
  have hg := h.hg
  have b2 : Boxed (w1.setCell ⟨s + 1, 0, none⟩ (.slice (some ⟨g', 0, none⟩) (pre ++ [x]).length c2)) (s + 1) 25 (.slice (some ⟨g', 0, none⟩) (pre ++ [x]).length c2) := h.bg.set _
  generalize hv : Value.slice (some ⟨g', 0, none⟩) (pre ++ [x]).length c2 = v at *
  have oth : ∀ b, b ≠ s + 1 → (w1.setCell ⟨s + 1, 0, none⟩ v).heap[b]? = w1.heap[b]? := fun b hb => set_other hb
  have bw2 : Below s W (w1.setCell ⟨s + 1, 0, none⟩ v) := h.bw.setCell (p := ⟨s + 1, 0, none⟩) (show s ≤ s + 1 by omega) v
  have ko2 : KeepsOthers W (w1.setCell ⟨s + 1, 0, none⟩ v) := h.ko.trans (KeepsOthers.setCell _ _ _)
  refine ⟨(oth _ (by omega)).trans h.br, (oth _ (by omega)).trans h.ob, fun B q k u hB => ?_⟩
  have oth2 : ∀ b, b ≠ r → (((w1.setCell ⟨s + 1, 0, none⟩ v).drewN q).setCell ⟨r, k, none⟩ u).heap[b]? = (w1.setCell ⟨s + 1, 0, none⟩ v).heap[b]? := fun b hb => set_other (W := (w1.setCell ⟨s + 1, 0, none⟩ v).drewN q) hb
  have kod : KeepsOthers (w1.setCell ⟨s + 1, 0, none⟩ v) ((w1.setCell ⟨s + 1, 0, none⟩ v).drewN q) := ⟨Nat.le_refl _, fun _ _ h _ => h⟩
  refine ⟨((ko2.trans kod).trans (KeepsOthers.setCell ((w1.setCell ⟨s + 1, 0, none⟩ v).drewN q) ⟨r, k, none⟩ u)).from B, ?_, ?_, ?_, ?_, ?_, ?_, hg, hr, ?_, ?_⟩
  · exact (below_drewN bw2 q).setCell (p := ⟨r, k, none⟩) (show s ≤ r by omega) u
  · exact (oth2 _ (by omega)).trans ((oth _ (by omega)).trans h.bk)
  · rw [hv]
    exact (oth2 _ (by omega)).trans b2
  · exact (oth2 _ (by omega)).trans ((oth _ (by omega)).trans h.br)
  · refine h.og.keep fun ad e => ?_
    injection e with e
    subst e
    have hgc : ∃ cur, w1.heap[g']? = some (.cells cur 3 (0, 0)) := by
      obtain ⟨_, _, _, h4⟩ := h.og
      rcases h4 with ⟨h4, _⟩ | ⟨g, cur, h4, hc, _⟩
      · cases h4
      · injection h4 with h4
        injection h4 with h4
        subst h4
        exact ⟨cur, hc⟩
    obtain ⟨cur, hgc⟩ := hgc
    have hne : g' ≠ r := cells_type hgc h.ob (by decide)
    exact (oth2 _ hne).trans (oth _ (by show g' ≠ s + 1; omega))
  · rw [gnums_snoc, onsL_snoc, ← bitTo_on]
    exact hB
  · rw [List.length_append, List.length_singleton]; omega
  · exact (hT.bw.trans (below_drewN bw2 q)).setCell (p := ⟨r, k, none⟩) (show s ≤ r by omega) u
theorem took_any {l : List Nat} {a b k : Nat} (ha : k ≤ (freesL l a).length) (hb : k ≤ (freesL l b).length) : tookL l a k = tookL l b k := by
  rcases Nat.le_total a b with h | h
  · exact (took_full h ha).symm
  · exact took_full h hb
/-- All have come. -/
theorem took_all {l : List Nat} {m K : Nat} (hm : m ≤ 64 * l.length) (hK : K ≤ (freesL l m).length) (hle : (cameG l (64 * l.length)).length ≤ K) : tookL l m K = gnums (cameG l (64 * l.length)) ∧ (cameG l (64 * l.length)).length = K := by
  obtain ⟨r, hr⟩ := frees_prefix l m (64 * l.length - m)
  rw [show m + (64 * l.length - m) = 64 * l.length by omega] at hr
  have hg := gnums_came l (64 * l.length) (Nat.le_refl _)
  have hl : (cameG l (64 * l.length)).length = (freesL l (64 * l.length)).length := by rw [← hg, gnums_len]
  have hl2 := congrArg List.length hr
  rw [List.length_append] at hl2
  have hlen : (freesL l (64 * l.length)).length = K := by omega
  refine ⟨?_, by omega⟩
  rw [took_any (b := 64 * l.length) hK (by omega), hg]
  unfold tookL
  rw [List.take_of_length_le (by omega)]
/-- It has stopped at one more. -/
theorem took_stop {l : List Nat} {m K q : Nat} {p : List (Gp l)} {x : Gp l} (hq : q ≤ 64 * l.length) (hK : K ≤ (freesL l m).length) (he : p ++ [x] = cameG l q) (hp : p.length = K) : tookL l m K = gnums p := by
  have hg := gnums_came l q hq
  rw [← he, gnums_snoc] at hg
  have hl2 := congrArg List.length hg
  rw [List.length_append, gnums_len, List.length_singleton] at hl2
  rw [took_any (b := q) hK (by omega)]
  unfold tookL
  rw [← hg, List.take_append_of_le_length (by rw [gnums_len]; omega), List.take_of_length_le (by rw [gnums_len]; omega)]
/-- What is left when the results are handed back. -/
theorem TI.fin {l : List Nat} {s K t D : Nat} {w W : World} {pre : List (Gp l)} {G cg r : Nat} (h : TI l s K w pre W G cg r) (ht : pre.length = t) (hD : W.heap[D]? = some (.deferred (some []))) (hs : s ≤ D) :
    (((W.setCell ⟨s + 1, 0, none⟩ (.slice (some ⟨G, 0, none⟩) t cg)).setCell ⟨s + 1 + 1, 0, none⟩ (.slice (some ⟨r, 0, none⟩) l.length l.length)).drew).heap[D]? = some (.deferred (some [])) ∧
    ∃ W4, (((W.setCell ⟨s + 1, 0, none⟩ (.slice (some ⟨G, 0, none⟩) t cg)).setCell ⟨s + 1 + 1, 0, none⟩ (.slice (some ⟨r, 0, none⟩) l.length l.length)).drew).putObj D (.deferred none) = W4 ∧
      Boxed W4 (s + 1) 25 (.slice (some ⟨G, 0, none⟩) t cg) ∧ Boxed W4 (s + 1 + 1) 22 (.slice (some ⟨r, 0, none⟩) l.length l.length) ∧
      IOwn s W4 (some ⟨G, 0, none⟩) cg (up (gnums pre)) ∧ Blk 38 W4 r (onsL l (gnums pre)) ∧ Below s w W4 := by
  subst ht
  have hG := h.hG
  have hr := h.hr
  have b1 := h.bg.set (.slice (some ⟨G, 0, none⟩) pre.length cg)
  have b2 := (h.br.other (B' := s + 1) (by omega) (.slice (some ⟨G, 0, none⟩) pre.length cg)).set (.slice (some ⟨r, 0, none⟩) l.length l.length)
  have b1' := b1.other (B' := s + 1 + 1) (by omega) (.slice (some ⟨r, 0, none⟩) l.length l.length)
  have e2 : s + 2 = s + 1 + 1 := rfl
  rw [e2] at b2
  generalize hv1 : Value.slice (some ⟨G, 0, none⟩) pre.length cg = v1 at *
  generalize hv2 : Value.slice (some ⟨r, 0, none⟩) l.length l.length = v2 at *
  have oth : ∀ b, b ≠ s + 1 → b ≠ s + 1 + 1 → ((W.setCell ⟨s + 1, 0, none⟩ v1).setCell ⟨s + 1 + 1, 0, none⟩ v2).heap[b]? = W.heap[b]? := fun b h1 h2 =>
    (set_other (W := W.setCell ⟨s + 1, 0, none⟩ v1) (p := ⟨s + 1 + 1, 0, none⟩) h2).trans (set_other (p := ⟨s + 1, 0, none⟩) h1)
  have bw : Below s w ((W.setCell ⟨s + 1, 0, none⟩ v1).setCell ⟨s + 1 + 1, 0, none⟩ v2) := (h.bw.setCell (p := ⟨s + 1, 0, none⟩) (show s ≤ s + 1 by omega) v1).setCell (p := ⟨s + 1 + 1, 0, none⟩) (show s ≤ s + 1 + 1 by omega) v2
  have hD2 : ((W.setCell ⟨s + 1, 0, none⟩ v1).setCell ⟨s + 1 + 1, 0, none⟩ v2).heap[D]? = some (.deferred (some [])) :=
    (KeepsOthers.setCell (W.setCell ⟨s + 1, 0, none⟩ v1) ⟨s + 1 + 1, 0, none⟩ v2).same D _ ((KeepsOthers.setCell W ⟨s + 1, 0, none⟩ v1).same D _ hD rfl) rfl
  have hGc : ∃ cur, W.heap[G]? = some (.cells cur 3 (0, 0)) := by
    obtain ⟨_, _, _, h4⟩ := h.og
    rcases h4 with ⟨h4, _⟩ | ⟨g, cur, h4, hc, _⟩
    · cases h4
    · injection h4 with h4
      injection h4 with h4
      subst h4
      exact ⟨cur, hc⟩
  obtain ⟨cur, hGc⟩ := hGc
  have oG := oth G (by omega) (by omega)
  have oR := oth r (by omega) (by omega)
  generalize (W.setCell ⟨s + 1, 0, none⟩ v1).setCell ⟨s + 1 + 1, 0, none⟩ v2 = V at *
  have hne : ∀ b cs t f, V.heap[b]? = some (Obj.cells cs t f) → (V.drew.putObj D (.deferred none)).heap[b]? = V.heap[b]? := fun b cs t f hb =>
    (grownBy_putObj' V.drew D (.deferred none)).block b (Array.getElem?_eq_some_iff.1 (show V.drew.heap[b]? = _ from hb)).1 (fun e => by
      injection e with e
      subst e
      rw [hD2] at hb
      cases hb)
  refine ⟨hD2, _, rfl, (hne _ _ _ _ b1').trans b1', (hne _ _ _ _ b2).trans b2, ⟨?_, ?_⟩, ?_, ?_⟩
  · rw [up_length, gnums_len]
    refine h.og.keep fun ad e => ?_
    injection e with e
    subst e
    exact (hne _ _ _ _ (oG.trans hGc)).trans oG
  · intro ad e
    injection e with e
    subst e
    show s ≤ G
    omega
  · exact (hne _ _ _ _ (oR.trans h.ob)).trans (oR.trans h.ob)
  · have bd : Below s w V.drew := below_drewN bw 1
    exact bd.grown (grownBy_putObj' V.drew D (.deferred none)) (Nat.le_trans (show s ≤ V.drew.heap.size from Nat.le_trans (by omega) (Nat.le_of_lt (Array.getElem?_eq_some_iff.1 (show V.drew.heap[D]? = _ from hD2)).1)) (Nat.le_refl _)) (fun k e => by injection e with e; omega)
/-- 'make([]int, 0, K)'. -/
def mkW (u : World) (K : Nat) : World := u.alloc (.cells (madeCells #[.int .i64 0] K) 3)
theorem run_mk (u : World) (K : Nat) (hK : K ≤ 4294967296) : (Instr.makeSlice 25 (.int .i64 0) (.int .i64 (K : Int))).run Tryd.prog u = .ok (.slice (some ⟨u.heap.size, 0, none⟩) 0 K) (mkW u K) := by
  obtain ⟨i0, hi0, hz0, hs0, hb0⟩ := info_parts i64_info
  have hrun := run_make (P := Tryd.prog) u 25 3 i0 (.int .i64 0) Tryd.underlying25 hi0 hz0 .i64 .i64 0 (K : Int) (Int.le_refl _) (by omega) (by rw [hb0]; omega) (by omega)
  rw [Int.toNat_natCast, hs0, Nat.mul_one] at hrun
  exact hrun
theorem own_mk (u : World) (K : Nat) (hK : K ≤ 4294967296) : OwnR (mkW u K) 3 1 (some ⟨u.heap.size, 0, none⟩) 0 K [] :=
  ⟨rfl, Nat.zero_le _, by unfold maxLen; omega, .inr ⟨_, _, rfl, heap_alloc_new u _, by rw [size_madeCells, Nat.mul_one]; exact Nat.le_refl _, by simp⟩⟩
theorem ev_of {a : Act} {d : Tmp} {v : Value} (h : a.eval (.tmp d) = v) : a.tmps[d]?.getD undef = v := by
  rw [← h]
  exact (Array.getD_eq_getD_getElem? ..).symm
set_option maxRecDepth 100000 in
set_option maxHeartbeats 2000000 in
theorem take_calls (A : Option Addr) (l : List Nat) (c : Nat) (n k : Int) (w : World) (hn : -9223372036854775808 ≤ n) (hn2 : n ≤ 9223372036854775807) (hr : Row w A l) (hl : Wd l) (hlen : l.length ≤ 65536) (hT : TabAt w) :
    Calls Tryd.prog 10 #[.slice A l.length c, .int .i64 n, .int .i64 k] w (TakesP l n k w) := by
  have cf := fun W hW => free_calls A l c n W hn hn2 (hr.below hW) hl (by omega)
  refine (callsIn_wide (n := 5)).1 ?_
  refine callsIn_of_wp_marks Tryd.func10 rfl trivial ?_ rfl
  simp only [Tryd.ntmps10, List.size_toArray, List.length_cons, List.length_nil, Nat.reduceAdd, Nat.reduceSub, Array.replicate_succ, Array.replicate_zero, List.push_toArray, List.append_toArray, List.nil_append, List.cons_append]
  cases hv : validB l n
  · rw [freeV_no hv, freeE_no hv] at cf
    have KE := Lib.hid (show takeE l n k = 2 by unfold takeE; rw [hv]; rfl)
    have CF := Lib.hid cf
    clear cf hv
    gi_wp2_with (refine ⟨trivial, ?_⟩; gi_at_call 12; refine (callsIn_wide.2 (CF.out (((w.alloc (.cells #[.int .i64 k] 3)).alloc (.cells #[.slice none 0 0] 25)).alloc (.cells #[.slice none 0 0] 22)) (tkW_below w k))).mono ?_; rintro e w' ⟨rfl, rfl⟩)
    exact ⟨_, res_take rfl rfl rfl (tkW_boxes w k).2.1 (tkW_boxes w k).2.2, TakesP.no KE.out (by decide) (tkW_below w k)⟩
  · rw [freeV_yes hv, freeE_yes hv] at cf
    obtain ⟨h0, h1⟩ := validB_iff.1 hv
    have hfle := frN_le l n
    by_cases hk : k < 0
    · have KE := Lib.hid (show takeE l n k = 2 by unfold takeE; rw [hv, if_pos rfl, if_pos hk])
      have CF := Lib.hid cf
      clear cf hv
      gi_wp2_with (refine ⟨trivial, ?_⟩; gi_at_call 12; refine (callsIn_wide.2 (CF.out (((w.alloc (.cells #[.int .i64 k] 3)).alloc (.cells #[.slice none 0 0] 25)).alloc (.cells #[.slice none 0 0] 22)) (tkW_below w k))).mono ?_; rintro e w' ⟨rfl, rfl⟩)
      exact ⟨_, res_take rfl rfl rfl (tkW_boxes w k).2.1 (tkW_boxes w k).2.2, TakesP.no KE.out (by decide) (tkW_below w k)⟩
    by_cases hfk : (frN l n : Int) < k
    · have KE := Lib.hid (show takeE l n k = 4 by unfold takeE; rw [hv, if_pos rfl, if_neg hk, if_pos hfk])
      have CF := Lib.hid cf
      clear cf hv
      generalize frN l n = f at *
      gi_wp2_with (refine ⟨trivial, ?_⟩; gi_at_call 12; refine (callsIn_wide.2 (CF.out (((w.alloc (.cells #[.int .i64 k] 3)).alloc (.cells #[.slice none 0 0] 25)).alloc (.cells #[.slice none 0 0] 22)) (tkW_below w k))).mono ?_; rintro e w' ⟨rfl, rfl⟩)
      exact ⟨_, res_take rfl rfl rfl (tkW_boxes w k).2.1 (tkW_boxes w k).2.2, TakesP.no KE.out (by decide) (tkW_below w k)⟩
    have KE := Lib.hid (show takeE l n k = 0 by unfold takeE; rw [hv, if_pos rfl, if_neg hk, if_neg hfk])
    have CF := Lib.hid cf
    clear cf hv
    have hk0 : 0 ≤ k := by omega
    obtain ⟨m, rfl⟩ := Int.eq_ofNat_of_zero_le h0
    obtain ⟨K, rfl⟩ := Int.eq_ofNat_of_zero_le hk0
    have hKm : K ≤ m := by omega
    have HF : Hid (K ≤ (freesL l m).length) := by
      show K ≤ (freesL l m).length
      have e : frN l (m : Int) = (freesL l m).length := rfl
      omega
    clear hk hk0 h0
    generalize frN l (m : Int) = f at *
    gi_wp2_with (refine ⟨trivial, ?_⟩; gi_at_call 12; refine (callsIn_wide.2 (CF.out (((w.alloc (.cells #[.int .i64 K] 3)).alloc (.cells #[.slice none 0 0] 25)).alloc (.cells #[.slice none 0 0] 22)) (tkW_below w K))).mono ?_; rintro e w' ⟨rfl, rfl⟩)
    have hbx := tkW_boxes w K
    have hW0b := tkW_below w K
    have hW0s := tkW_size w K
    obtain ⟨i0, hi0, hz0, hs0, hb0⟩ := info_parts i64_info
    obtain ⟨W0, hW0⟩ : ∃ Z, tkW w K = Z := ⟨_, rfl⟩
    rw [show ((w.alloc (.cells #[.int .i64 (K : Int)] 3)).alloc (.cells #[.slice none 0 0] 25)).alloc (.cells #[.slice none 0 0] 22) = W0 from hW0]
    rw [hW0] at hbx hW0b hW0s
    clear hW0
    obtain ⟨bk, bg, br⟩ := hbx
    refine wpIn_wide.2 ?_
    refine wp_region_tail (R := TkR W0.heap.size K (.slice A l.length c) l) 4 (by kernel_rfl) (by kernel_rfl) (by kernel_rfl) (by kernel_rfl) (by kernel_rfl) (by decide) (by kernel_rfl) (fun i v u u' h k => TkR.stable h k) (fun i o hi hn => ?heads) (fun vs u hon hR => ?tail)
    case heads =>
      match i, hn with
      | 0, _ =>
        injection hi with hi
        subst hi
        intro a u hb hA hd
        refine .inl ⟨rfl, StepOK.run (.int .i64 (K : Int)) ?_ rfl (On.refl _)⟩
        have q0 := ev_of (show a.eval (.tmp 5) = .pointer (some ⟨w.heap.size, 0, none⟩) from hA.eval 5 rfl)
        have y0 := (hb.cell (p := ⟨w.heap.size, 0, none⟩) bk.lt).trans bk.cell
        unfold execOp
        simp [go_sem, q0, y0]
      | 1, _ =>
        injection hi with hi
        subst hi
        intro a u hb hA hd
        have q0 : a.eval (.tmp 28) = .int .i64 (K : Int) := dep hd 0 28 rfl rfl
        have hrun := run_mk u K (by omega)
        refine .inl ⟨rfl, StepOK.run (w' := mkW u K) (.slice (some ⟨u.heap.size, 0, none⟩) 0 K) ?_ ⟨u.heap.size, rfl, hb.size, own_mk u K (by omega)⟩ (on_alloc _ _)⟩
        have q1 := ev_of q0
        have q2 : a.eval (.const (.int .i64 0)) = .int .i64 0 := rfl
        unfold execOp
        simp only [q0, q2, Sem.run_bind, hrun]
        rfl
      | 2, _ =>
        injection hi with hi
        subst hi
        intro a u hb hA hd
        exact .inl ⟨rfl, StepOK.move (.tmp 0) rfl (hA.eval 0 rfl) (On.refl _)⟩
      | 3, _ =>
        injection hi with hi
        subst hi
        intro a u hb hA hd
        have q0 : a.eval (.tmp 30) = .slice A l.length c := dep hd 2 30 rfl rfl
        have q1 := ev_of q0
        refine .inl ⟨rfl, StepOK.call 20 #[.slice A l.length c] ?_ ((twin_calls A l c u ((hr.below hW0b).below hb) (by omega)).mono ?_)⟩
        · unfold execOp
          simp [go_sem, q1]
        · rintro e w' ⟨rfl, hB, hb'⟩
          exact ⟨_, rfl, ⟨u.heap.size, rfl, hb.size, hB⟩, hb'⟩
    case tail =>
      have e0 := hR 0 (by decide)
      obtain ⟨g, e1, hgB, hgo⟩ := hR 1 (by decide)
      have e2 := hR 2 (by decide)
      obtain ⟨r, e3, hrB, hrb⟩ := hR 3 (by decide)
      simp only [TkR] at e0 e2
      simp only [putsFrom, Act.put, List.setIfInBounds_toArray, List.set_cons_succ, List.set_cons_zero, List.take_succ_cons, List.take_zero, List.drop_succ_cons, List.drop_zero, e0, e1, e2, e3]
      have ug : Boxed u (w.heap.size + 1) 25 (.slice none 0 0) := (hon.block _ bg.lt).trans bg
      have ur : Boxed u (w.heap.size + 2) 22 (.slice none 0 0) := (hon.block _ br.lt).trans br
      have uk : Boxed u w.heap.size 3 (.int .i64 (K : Int)) := (hon.block _ bk.lt).trans bk
      have xg := ug.cell
      have yg := ug.frozen
      have xr := ur.cell
      have yr := ur.frozen
      obtain ⟨U, hU⟩ : ∃ Z, (u.setCell ⟨w.heap.size + 1, 0, none⟩ (.slice (some ⟨g, 0, none⟩) 0 K)).setCell ⟨w.heap.size + 2, 0, none⟩ (.slice (some ⟨r, 0, none⟩) l.length l.length) = Z := ⟨_, rfl⟩
      have HU := Lib.hid hU
      clear hU
      go_wp2
      rw [show (u.setCell ⟨w.heap.size + 1, 0, none⟩ (.slice (some ⟨g, 0, none⟩) 0 K)).setCell ⟨w.heap.size + 1 + 1, 0, none⟩ (.slice (some ⟨r, 0, none⟩) l.length l.length) = U from HU.out]
      have hons := hon.size
      have hT0 : TI l w.heap.size K w [] U g K r := by
        rw [← HU.out]
        have hg1 : g ≠ w.heap.size + 1 := by omega
        have hg2 : g ≠ w.heap.size + 2 := by omega
        refine ⟨(uk.other (by omega) _).other (by omega) _, (ug.set _).other (by omega) _, (ur.other (by omega) _).set _, ?_, ?_, by omega, by omega, Nat.zero_le _, ?_⟩
        · refine hgo.keep fun ad e => ?_
          injection e with e
          subst e
          exact (set_other (p := ⟨w.heap.size + 2, 0, none⟩) (show g ≠ w.heap.size + 2 by omega)).trans (set_other (p := ⟨w.heap.size + 1, 0, none⟩) (show g ≠ w.heap.size + 1 by omega))
        · exact ((set_other (p := ⟨w.heap.size + 2, 0, none⟩) (show r ≠ w.heap.size + 2 by omega)).trans (set_other (p := ⟨w.heap.size + 1, 0, none⟩) (show r ≠ w.heap.size + 1 by omega))).trans hrb
        · exact ((hW0b.trans (hon.mono hW0b.size)).setCell (p := ⟨w.heap.size + 1, 0, none⟩) (show w.heap.size ≤ w.heap.size + 1 by omega) _).setCell (p := ⟨w.heap.size + 2, 0, none⟩) (show w.heap.size ≤ w.heap.size + 2 by omega) _
      clear xg yg xr yr ug ur uk HU hgo hrb e0 e1 e2 e3 hR bk bg br hW0b hW0s hgB hrB hon hons CF
      gi_wp2_with (refine ⟨trivial, ?_⟩; gi_at_call 21; refine (gaps_in _ _ _ _).mono ?_; rintro e w' ⟨rfl, rfl⟩)
      have hBs := Boxed.new U 22 (.slice A l.length c)
      have hUw := hT0.bw
      have HI := Lib.hid hi0
      have HZ := Lib.hid hz0
      have HS := Lib.hid hs0
      have HB := Lib.hid hb0
      clear hi0 hz0 hs0 hb0
      have hUs := hUw.size
      have hU1 : Below w.heap.size w (U.alloc (.cells #[.slice A l.length c] 22)) := hUw.alloc hUs _
      have hAl : ∀ ad, 0 < l.length → A = some ad → ad.block < w.heap.size := fun ad h0 e => by
        obtain ⟨ad', e', h, _⟩ := hr h0
        rw [e] at e'
        injection e' with e'
        subst e'
        exact h
      refine wpIn_rangeFunc_ownG rfl (show 1 ≤ 5 by decide) (gf := 29) (lb := #[.pointer (some ⟨U.heap.size, 0, none⟩)]) rfl trivial (enters_of Tryd.func29 (by kernel_rfl) rfl)
        (gaps_stops U.heap.size w.heap.size A l c hlen hl _ (by rw [World.size_alloc]; omega) (by rw [World.size_alloc]; omega) hBs.cell hAl (hr.below hU1) (fun W' h => hT.below (hU1.trans h))) belowK_t (belowK_b (by rw [World.size_alloc]; omega)) (Below.refl _ _) (fun _ => rfl)
        (fun pre W => ∃ G cg r, TI l w.heap.size K w pre W G cg r)
        (fun cc pre W => cc = .exit 1 ∧ ∃ (p : List (Gp l)) (x : Gp l), pre = p ++ [x] ∧ p.length = K ∧ ∃ G cg r, TI l w.heap.size K w p W G cg r)
        (TI.own (by rw [World.size_alloc]; omega) (Nat.le_refl _))
        ?stops
        ?start
        (fun x => { tmps := #[.slice A l.length c, .int .i64 (m : Int), .int .i64 (K : Int), undef, undef, .pointer (some ⟨w.heap.size, 0, none⟩), .pointer (some ⟨w.heap.size + 1, 0, none⟩), .pointer (some ⟨w.heap.size + 1 + 1, 0, none⟩), .int .i64 0, .int .i64 (f : Int), .int .i64 ((x.1 : Nat) + 1 : Int), .tuple #[.int .i64 (f : Int), .int .i64 0], .slice A l.length c, .int .i64 (m : Int), .tuple #[.int .i64 (f : Int), .int .i64 0], .int .i64 (f : Int), .int .i64 0, .bool (decide ((K : Int) < 0)), .int .i64 0, .bool false, .bool false, .int .i64 (K : Int), .bool (decide ((K : Int) < 0)), .bool (decide ((K : Int) < 0)), .bool false, .int .i64 (f : Int), .int .i64 (K : Int), .bool false, .int .i64 (K : Int), .slice (some ⟨g, 0, none⟩) 0 K, .slice A l.length c, .slice (some ⟨r, 0, none⟩) l.length l.length, .slice A l.length c, .func (.func 29) #[] #[.pointer (some ⟨U.heap.size, 0, none⟩)], .int .i64 ((x.1 : Nat) + 1 : Int), undef, undef, undef, undef, undef, undef, undef, undef, undef, undef, undef, undef, undef], defers := [] }) ?assign ?body ?done ?stop
      case start => exact (TI.own (B := w.heap.size) (Nat.le_refl _) (Nat.le_refl _)).alloc _ ⟨g, K, r, hT0⟩
      case stops =>
        rintro cc pre X X' row ⟨hc, p, x, e, hp, hti⟩ hg hr
        exact ⟨hc, p, x, e, hp, TI.own (B := w.heap.size) (Nat.le_refl _) (Nat.le_refl _) p X X' row hti hg (fun r e => ⟨by have := (hr r e).1; rw [World.size_alloc] at this; omega, (hr r e).2⟩)⟩
      case assign =>
        intro lo x W K' hK'
        gi_wp2
        exact hK'
      case body =>
        rintro lo pre ⟨x, hx⟩ W ⟨G, cg, r, hTI⟩ hpl
        have hpl2 := hTI.le
        have ck := hTI.bk.cell
        have cg1 := hTI.bg.cell
        have fg1 := hTI.bg.frozen
        have cr1 := hTI.br.cell
        by_cases hK : pre.length = K
        · have hKF := Lib.hid hTI
          clear hTI
          have hst : ∃ (p : List (Gp l)) (y : Gp l), pre ++ [⟨x, hx⟩] = p ++ [y] ∧ p.length = K ∧ ∃ G cg r, TI l w.heap.size K w p W G cg r := ⟨pre, ⟨x, hx⟩, rfl, hK, G, cg, r, hKF.out⟩
          have HST := Lib.hid hst
          clear hst
          generalize pre.length = t at *
          gi_wp2
          exact ⟨KeepsFrom.refl _ _, rfl, HST.out⟩
        · have hlt : pre.length < K := by omega
          have HTI := Lib.hid hTI
          have HOG := Lib.hid (fun o => hTI.og.keep (w' := W.alloc o) fun ad e => Below.heap_alloc W o _ (hTI.og.lt ad e))
          have HL1 : Hid ((pre ++ [(⟨x, hx⟩ : Gp l)]).length = pre.length + 1) := by show _ = _; rw [List.length_append]; rfl
          have HLT : Hid (pre.length < K) := hlt
          obtain ⟨t, ht⟩ : ∃ t, pre.length = t := ⟨_, rfl⟩
          have HPT := Lib.hid ht
          have hKb : ((t : Int) == (K : Int)) = false := by rw [beq_eq_false_iff_ne]; omega
          rw [ht] at cg1 hK hlt hpl hpl2 HOG HL1
          clear ht hTI hK
          gi_wp2_with (first
            | (gi_at_builtin; refine wpListIn_append_r rfl (.tmp 39) (.tmp 41) 25 rfl 3 i0 _ 1 8 Tryd.underlying25 HI.out HZ.out HS.out HB.out rfl (some ⟨G, 0, none⟩) t cg (iv (up (gnums pre))) rfl (HOG.out _) ⟨W.heap.size, 0, none⟩ 1 1 (iv [(x : Int) + 1]) rfl rfl (cells_one (heap_alloc_new _ _)) (iv_one _) (by decide) (by unfold maxLen; omega) (by omega) ?_; intro g' c2 w1 hown2 hgr hg; have hta := HTI.out.app (x := ⟨x, hx⟩) (Nat.le_refl _) (by rw [HPT.out]; exact hown2) hgr hg; have c3 := hta.bg.cell; have f3 := hta.bg.frozen; have c5 := hta.br.cell; have hnx := hta.next HTI.out HLT.out; rw [HL1.out] at hnx; rw [HPT.out] at c3; have c4 := hnx.1.cell; have cm := mark_calls r (onsL l (gnums pre)) l.length x 1 _ hnx.2.1 (onsL_wd hl _) (by rw [onsL_len]; exact hx) (by decide) (by rw [onsL_len]; omega); rw [onsL_len] at cm; have CM := Lib.hid cm; have HNX := Lib.hid hnx.2.2; clear cm hnx hta hown2 hgr hg)
            | (refine ⟨trivial, ?_⟩; gi_at_call 22; refine (CallsIn.inRound lo (callsIn_wide.2 (show Calls Tryd.prog 22 _ _ _ from CM.out))).mono ?_; rintro e w' ⟨⟨v, rfl⟩, q, u', rfl, hB2⟩))
          have hfin := HNX.out ((U.alloc (.cells #[.slice A l.length c] 22)).heap.size) q _ u' hB2
          exact ⟨hfin.1, hfin.2.1, g', c2, r, hfin.2.2⟩
      case done =>
        rintro D ys W hD rfl ⟨G, cg, r, hTI⟩ hK
        have ck := hTI.bk.cell
        have cg1 := hTI.bg.cell
        have fg1 := hTI.bg.frozen
        have cr1 := hTI.br.cell
        have fr1 := hTI.br.frozen
        have htk := took_all (m := m) (K := K) (l := l) (by omega) HF.out hTI.le
        obtain ⟨t, ht⟩ : ∃ t, (cameG l (64 * l.length)).length = t := ⟨_, rfl⟩
        have hwD : w.heap.size ≤ D := by rw [World.size_alloc] at hD; omega
        obtain ⟨f1, W4, f2, f3, f4, f5, f6, f7⟩ := hTI.fin ht hK hwD
        have KF := TakesP.yes (N := l.length) KE.out (by rw [Int.toNat_natCast, Int.toNat_natCast]; exact htk.1) (by rw [gnums_len, ht]) rfl f5 f6.row (fun ad e => by injection e with e; subst e; show w.heap.size ≤ r; have := hTI.hr; omega) f7 (cr := l.length)
        have KFH := Lib.hid KF
        have F1 := Lib.hid f1
        have F2 := Lib.hid f2
        have F3 := Lib.hid f3
        have F4 := Lib.hid f4
        rw [ht] at cg1
        clear KF f1 f2 f3 f4 f5 f6 f7 htk hTI ht
        gi_wp2
        refine wpIn_wide.2 ?_
        go_region
        gi_wp2
        refine ⟨by simp, .inl ⟨_, _, rfl, run_takeDeferred F1.out, ?_⟩⟩
        rw [F2.out]
        exact ⟨_, res_take rfl rfl rfl F3.out F4.out, KFH.out⟩
      case stop =>
        rintro D cc pre W hD ⟨q, hq, hpre⟩ ⟨rfl, p, x, e, hp, G, cg, r, hTI⟩ hK
        have ck := hTI.bk.cell
        have cg1 := hTI.bg.cell
        have fg1 := hTI.bg.frozen
        have cr1 := hTI.br.cell
        have fr1 := hTI.br.frozen
        have htk := took_stop (m := m) (K := K) (l := l) hq HF.out (e.symm.trans hpre) hp
        have hwD : w.heap.size ≤ D := by rw [World.size_alloc] at hD; omega
        obtain ⟨f1, W4, f2, f3, f4, f5, f6, f7⟩ := hTI.fin hp hK hwD
        have KF := TakesP.yes (N := l.length) KE.out (by rw [Int.toNat_natCast, Int.toNat_natCast]; exact htk) (by rw [gnums_len, hp]) rfl f5 f6.row (fun ad e => by injection e with e; subst e; show w.heap.size ≤ r; have := hTI.hr; omega) f7 (cr := l.length)
        have KFH := Lib.hid KF
        have F1 := Lib.hid f1
        have F2 := Lib.hid f2
        have F3 := Lib.hid f3
        have F4 := Lib.hid f4
        rw [hp] at cg1
        clear KF f1 f2 f3 f4 f5 f6 f7 htk hTI hp e hpre
        gi_wp2
        refine wpIn_wide.2 ?_
        go_region
        gi_wp2
        refine ⟨by simp, .inl ⟨_, _, rfl, run_takeDeferred F1.out, ?_⟩⟩
        rw [F2.out]
        exact ⟨_, res_take rfl rfl rfl F3.out F4.out, KFH.out⟩
end Go.Proofs.YtaafchcpnceddaaDoor
