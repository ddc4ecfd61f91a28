/- OwnerLists: whatever it is called with, it hands back true. -/
import Derived.Test.YtdioafoikcfhhaaPh
set_option linter.unusedSimpArgs false
set_option linter.unusedVariables false
set_option linter.unusedSimpArgs false
set_option linter.unusedVariables false
namespace Go.Proofs.Ytdioafoikcfhhaa
open Go.RowKit
section
variable {o : Oper} {a : Act} {u : World} {K : Act → World → Prop} {Q : Exit → Act → World → Prop}
theorem wp_valx {v : Value} {w' : World} (hrun : (execOp a.eval o).run Try.prog u = .ok (.value v) w') (h : K (a.put o.dst v) w') : o.wp Try.prog a u K Q := by
  unfold Oper.wp
  rw [hrun]
  exact h
theorem wp_callx {f : FuncId} {args : Array Value} (hrun : (execOp a.eval o).run Try.prog u = .ok (.enter f args) u) (hc : Calls Try.prog f args u fun e w' => ∃ v, e = .returned v ∧ K (a.put o.dst v) w') : o.wp Try.prog a u K Q := by
  unfold Oper.wp
  rw [hrun]
  refine hc.mono ?_
  rintro e w' ⟨v, rfl, h⟩
  exact h
end
/-- A process, attributes, a directory's, a list: four blocks of the call's own, their rows. -/
structure Pq (w V : World) (c : Cr) (A : Option Addr) (n : Nat) (x : At) (p : ALie) (d : At) (pd : ALie) (l : Ac) (pl : Lie) : Prop where
  cb : Cb V w.heap.size c A n
  bt : Bt V (w.heap.size + 1) x p
  bd : Bt V (w.heap.size + 2) d pd
  bl : Ab V (w.heap.size + 3) l pl
  cl : CLies V c A
  al : ALies V x p
  dl : ALies V d pd
  ll : Lies V l pl
  be : Below w.heap.size w V
theorem Pq.on {w V V' : World} {c : Cr} {A : Option Addr} {n : Nat} {x d : At} {p pd : ALie} {l : Ac} {pl : Lie} (h : Pq w V c A n x p d pd l pl) (hb : Below V.heap.size V V') : Pq w V' c A n x p d pd l pl :=
  ⟨h.cb.on hb, h.bt.on hb, h.bd.on hb, h.bl.on hb, h.cl.below hb, h.al.below hb, h.dl.below hb, h.ll.below hb, h.be.trans (hb.mono h.be.size)⟩
theorem Pq.start {w : World} {c : Cr} {A : Option Addr} {n : Nat} {x d : At} {p pd : ALie} {l : Ac} {pl : Lie} (hc : CLies w c A) (hx : ALies w x p) (hd : ALies w d pd) (hl : Lies w l pl) : Pq w ((((w.alloc (.cells (c.c A n) 25)).alloc (.cells (x.c p) 31)).alloc (.cells (d.c pd) 31)).alloc (.cells (l.c pl) 28)) c A n x p d pd l pl := by
  have h1 := Pc.start (n := n) hc hx hd
  obtain ⟨V, hV⟩ : ∃ V, V = ((w.alloc (.cells (c.c A n) 25)).alloc (.cells (x.c p) 31)).alloc (.cells (d.c pd) 31) := ⟨_, rfl⟩
  have hsz : V.heap.size = w.heap.size + 3 := by rw [hV, World.size_alloc, World.size_alloc, World.size_alloc]
  rw [← hV] at h1 ⊢
  have b : Below V.heap.size V (V.alloc (.cells (l.c pl) 28)) := (Below.refl _ _).alloc (Nat.le_refl _) _
  have h2 := h1.on b
  refine ⟨h2.cb, h2.bd, h2.bt, ?_, h2.cl, h2.dl, h2.al, hl.below h2.be, h2.be⟩
  have := Ab.new V l pl
  rwa [hsz] at this
/-- A block that holds C0 once b is. -/
def Cell4 (u : World) (g : Nat) (T : TypeId) (n : Nat) (b : Bool) (C0 : Array Value) : Prop := ∃ C, u.heap[g]? = some (.cells C T (0, 0)) ∧ C.size = n ∧ (b = true → C = C0)
section
variable {u u' : World} {g n : Nat} {T : TypeId} {b : Bool} {C0 : Array Value}
theorem Cell4.on (h : Cell4 u g T n b C0) (hb : Below u.heap.size u u') : Cell4 u' g T n b C0 := by
  obtain ⟨C, h1, h2, h3⟩ := h
  exact ⟨C, (hb.block _ (lt_of_cells h1)).trans h1, h2, h3⟩
theorem Cell4.re (h : Cell4 u g T n b C0) (hb : b = false) {C1 : Array Value} : Cell4 u g T n b C1 := by
  obtain ⟨C, h1, h2, h3⟩ := h
  exact ⟨C, h1, h2, fun h => by rw [hb] at h; cases h⟩
theorem Cell4.new {C : Array Value} (h : u.heap[g]? = some (.cells C T (0, 0))) (hn : C.size = n) (hb : b = false) : Cell4 u g T n b C0 := ⟨C, h, hn, fun h => by rw [hb] at h; cases h⟩
theorem Cell4.other {g' : Nat} (h : Cell4 u g T n b C0) (hne : ∀ {C : Array Value}, u.heap[g]? = some (.cells C T (0, 0)) → g ≠ g') (D : Array Value) : Cell4 (u.setRow g' D) g T n b C0 := by
  obtain ⟨C, h1, h2, h3⟩ := h
  exact ⟨C, (setRow_other u g' g D (hne h1)).trans h1, h2, h3⟩
theorem AOw.turnT {x : At} {p : ALie} {C : Array Value} (h : AOw u x p) (hg : u.heap[g]? = some (.cells C T (0, 0))) (h1 : 81 ≠ T) (h2 : 72 ≠ T) (D : Array Value) : AOw (u.setRow g D) x p := ⟨h.ac.turn hg h1 D, h.df.turn hg h1 D, h.xs.turn hg h2 D⟩
theorem setT {L : Nat → Bool} {i j : Nat} (h : L j = true) : setL L i j = true := by
  unfold setL
  split
  · rfl
  · exact h
/-- 'own, list := Copy(a), Copy(l)': the region's invariant. -/
structure J2 (v : World) (x : At) (p : ALie) (l : Ac) (pl : Lie) (L : Nat → Bool) (e : Nat → Value) (u : World) (qo : ALie) (ql : Lie) (go gl : Nat) : Prop where
  low : Below v.heap.size v u
  f0 : L 0 = true → e 32 = x.v p
  f1 : L 1 = true → e 33 = x.v qo ∧ AOw u x qo
  f2 : L 2 = true → e 34 = l.v pl
  f3 : L 3 = true → e 35 = l.v ql ∧ LiesO u l ql
  f4 : L 4 = true → e 13 = .pointer (some ⟨go, 0, none⟩) ∧ v.heap.size ≤ go ∧ Cell4 u go 31 19 (L 6) (At.c x qo)
  f5 : L 5 = true → e 14 = .pointer (some ⟨gl, 0, none⟩) ∧ v.heap.size ≤ gl ∧ Cell4 u gl 28 7 (L 7) (Ac.c l ql)
  g6 : L 6 = true → L 1 = true ∧ L 4 = true
  g7 : L 7 = true → L 3 = true ∧ L 5 = true
/-- A list in a block, its rows in memory. -/
structure Hq (u : World) (g : Nat) (l : Ac) (q : Lie) : Prop where
  ab : Ab u g l q
  li : Lies u l q
theorem Hq.on {l : Ac} {q : Lie} (h : Hq u g l q) (hb : Below u.heap.size u u') : Hq u' g l q := ⟨h.ab.on hb, h.li.below hb⟩
end
theorem rlsame_self (x : Ac) (p q : Lie) (w : World) (h1 : Lies w x p) (h2 : Lies w x q) (hs : Sm x) : Calls Try.prog 27 #[x.v p, x.v q] w fun e w' => e = .returned (.bool true) ∧ Below w.heap.size w w' := by
  have h := rlsame_calls x x p q w h1 h2 hs hs
  rwa [sameB_self] at h
theorem racopy_att (x : At) (p : ALie) (w : World) (h : ALies w x p) (hs : ASm x) : Calls Try.prog 10 #[x.v p] w fun e w' => ∃ q, e = .returned (At.v x q) ∧ ALies w' x q ∧ Below w.heap.size w w' :=
  (racopy_calls x p w h hs).mono fun e w' ⟨q, h1, h2, h3⟩ => ⟨q, h1, h2.lies, h3⟩
set_option maxRecDepth 100000 in
set_option maxHeartbeats 16000000 in
theorem lists_law (c : Cr) (A : Option Addr) (n : Nat) (x : At) (p : ALie) (d : At) (pd : ALie) (k wh : Nat) (l : Ac) (pl : Lie) (w : World) (hc : CLies w c A) (h : ALies w x p) (hd : ALies w d pd) (hll : Lies w l pl) (hsx : ABg x) (hsd : ABg d) (hsl : Bg l) :
    Calls Try.prog 4 #[c.v A n, x.v p, d.v pd, .int .u8 (k : Nat), .int .u8 (wh : Nat), l.v pl] w fun e w' => e = .returned (.bool true) ∧ Below w.heap.size w w' := by
  obtain ⟨V, hV⟩ : ∃ V, V = (((w.alloc (.cells (c.c A n) 25)).alloc (.cells (x.c p) 31)).alloc (.cells (d.c pd) 31)).alloc (.cells (l.c pl) 28) := ⟨_, rfl⟩
  have S0 : Hid (Pq w V c A n x p d pd l pl) := Lib.hid (by rw [hV]; exact Pq.start hc h hd hll)
  have HGX := Lib.hid hsx
  have HGD := Lib.hid hsd
  have HGL := Lib.hid hsl
  clear h hc hsx hd hll hsd hsl
  go_enter Try.func4, Try.ntmps4
  go_upto_region 1 with (fail)
  rw [← hV]
  clear hV
  go_wp2_with (first
  | (refine wpList_load_part rfl 25 (.tmp 6) rfl w.heap.size 0 rfl (Cr.c c A n).toList _ (S0.out.cb).all Try.underlying25 rfl cred_size (Cr.v c A n) rfl ?_)
  | (refine wpList_load_part rfl 31 (.tmp 7) rfl (w.heap.size + 1) 0 rfl (At.c x p).toList _ (S0.out.bt).bt0 Try.underlying31 rfl attr_size (At.v x p) rfl ?_)
  | (refine wpList_load_part rfl 31 (.tmp 8) rfl (w.heap.size + 2) 0 rfl (At.c d pd).toList _ (S0.out.bd).bt0 Try.underlying31 rfl attr_size (At.v d pd) rfl ?_)
  | (refine wpList_load_part rfl 28 (.tmp 11) rfl (w.heap.size + 3) 0 rfl (Ac.c l pl).toList _ (S0.out.bl.part) Try.underlying28 rfl acl_size (Ac.v l pl) rfl ?_))
  refine (glarge_calls c A n x p V S0.out.cl S0.out.al HGX.out).mono ?_
  rintro e w1 ⟨rfl, hb⟩
  have S1 := Lib.hid (S0.out.on hb)
  clear hb S0
  cases hlx : largeG c x
  case true =>
    clear hlx
    go_wp2_with (fail)
    refine (alive_calls _).mono ?_
    rintro e w99 ⟨rfl, hb⟩
    have HBZ := Lib.hid ((S1.out.be).trans (hb.mono (S1.out.be).size))
    clear hb
    go_wp2_with (fail)
    go_ret
    exact ⟨rfl, HBZ.out⟩
  case false =>
  have HS := Lib.hid (largeG_no hlx).1
  have HK := Lib.hid (largeG_no hlx).2.1
  clear hlx
  go_wp2_with (first
  | (refine wpList_load_part rfl 25 (.tmp 6) rfl w.heap.size 0 rfl (Cr.c c A n).toList _ (S1.out.cb).all Try.underlying25 rfl cred_size (Cr.v c A n) rfl ?_)
  | (refine wpList_load_part rfl 31 (.tmp 7) rfl (w.heap.size + 1) 0 rfl (At.c x p).toList _ (S1.out.bt).bt0 Try.underlying31 rfl attr_size (At.v x p) rfl ?_)
  | (refine wpList_load_part rfl 31 (.tmp 8) rfl (w.heap.size + 2) 0 rfl (At.c d pd).toList _ (S1.out.bd).bt0 Try.underlying31 rfl attr_size (At.v d pd) rfl ?_)
  | (refine wpList_load_part rfl 28 (.tmp 11) rfl (w.heap.size + 3) 0 rfl (Ac.c l pl).toList _ (S1.out.bl.part) Try.underlying28 rfl acl_size (Ac.v l pl) rfl ?_))
  refine (glarge_calls c A n d pd w1 S1.out.cl S1.out.dl HGD.out).mono ?_
  rintro e w2 ⟨rfl, hb⟩
  have S2 := Lib.hid (S1.out.on hb)
  clear hb S1
  cases hld : largeG c d
  case true =>
    clear hld
    go_wp2_with (fail)
    refine (alive_calls _).mono ?_
    rintro e w99 ⟨rfl, hb⟩
    have HBZ := Lib.hid ((S2.out.be).trans (hb.mono (S2.out.be).size))
    clear hb
    go_wp2_with (fail)
    go_ret
    exact ⟨rfl, HBZ.out⟩
  case false =>
  have HSD := Lib.hid (largeG_no hld).1
  have HKD := Lib.hid (largeG_no hld).2.1
  clear hld
  go_wp2_with (first
  | (refine wpList_load_part rfl 25 (.tmp 6) rfl w.heap.size 0 rfl (Cr.c c A n).toList _ (S2.out.cb).all Try.underlying25 rfl cred_size (Cr.v c A n) rfl ?_)
  | (refine wpList_load_part rfl 31 (.tmp 7) rfl (w.heap.size + 1) 0 rfl (At.c x p).toList _ (S2.out.bt).bt0 Try.underlying31 rfl attr_size (At.v x p) rfl ?_)
  | (refine wpList_load_part rfl 31 (.tmp 8) rfl (w.heap.size + 2) 0 rfl (At.c d pd).toList _ (S2.out.bd).bt0 Try.underlying31 rfl attr_size (At.v d pd) rfl ?_)
  | (refine wpList_load_part rfl 28 (.tmp 11) rfl (w.heap.size + 3) 0 rfl (Ac.c l pl).toList _ (S2.out.bl.part) Try.underlying28 rfl acl_size (Ac.v l pl) rfl ?_))
  refine (large_calls l pl w2 HGL.out).mono ?_
  rintro e w3 ⟨rfl, hb⟩
  have S3 := Lib.hid (S2.out.on hb)
  clear hb S2
  cases hll : (decide (100 < l.us.length) || decide (100 < l.gs.length))
  case true =>
    clear hll
    go_wp2_with (fail)
    refine (alive_calls _).mono ?_
    rintro e w99 ⟨rfl, hb⟩
    have HBZ := Lib.hid ((S3.out.be).trans (hb.mono (S3.out.be).size))
    clear hb
    go_wp2_with (fail)
    go_ret
    exact ⟨rfl, HBZ.out⟩
  case false =>
  have HLS := Lib.hid (sm_of_small hll)
  clear hll
  obtain ⟨X, hX⟩ : ∃ X, aclA c x k wh l = X := ⟨_, rfl⟩
  obtain ⟨N, hN⟩ : ∃ N, aclN c x k wh l = N := ⟨_, rfl⟩
  obtain ⟨tt, htt⟩ : ∃ b, remB c d x = b := ⟨_, rfl⟩
  have HMX : Hid (amayB X = true) := Lib.hid (by rw [← hX]; exact may_aclA c x k wh l)
  have HC1 : Hid (∀ (p : ALie) (q : Lie) v, CLies v c A → ALies v x p → Lies v l q → Calls Try.prog 23 #[c.v A n, x.v p, .int .u8 (k : Nat), .int .u8 (wh : Nat), l.v q] v fun e w' => ∃ q, e = .returned (.tuple #[At.v X q, .int .i64 N]) ∧ AOw w' X q ∧ Below v.heap.size v w') := Lib.hid (fun p q v h1 h2 h3 => by
    have h := setaclo_calls c A n x p k wh l q v h1 h2 HS.out h3 HLS.out
    rwa [hX, hN] at h)
  have HC2 : Hid (∀ v, CLies v c A → ALies v x p → Lies v l pl → Calls Try.prog 24 #[c.v A n, x.v p, .int .u8 (k : Nat), .int .u8 (wh : Nat), l.v pl] v fun e w' => ∃ q, e = .returned (.tuple #[At.v X q, .int .i64 N]) ∧ AOw w' X q ∧ Below v.heap.size v w') := Lib.hid (fun v h1 h2 h3 => by
    have h := raclo_calls c A n x p k wh l pl v h1 h2 HS.out HK.out h3 HLS.out
    rwa [hX, hN] at h)
  have HR1 : Hid (∀ (pd p : ALie) v, CLies v c A → ALies v d pd → ALies v x p → Calls Try.prog 25 #[c.v A n, d.v pd, x.v p] v fun e w' => e = .returned (.bool tt) ∧ Below v.heap.size v w') := Lib.hid (fun pd p v h1 h2 h3 => htt ▸ removes_calls c A n d pd x p v h1 h2 h3 HSD.out HS.out)
  have HR2 : Hid (∀ v, CLies v c A → ALies v d pd → ALies v x p → Calls Try.prog 26 #[c.v A n, d.v pd, x.v p] v fun e w' => e = .returned (.bool tt) ∧ Below v.heap.size v w') := Lib.hid (fun v h1 h2 h3 => htt ▸ rremoves_calls c A n d pd x p v h1 h2 h3 HSD.out HS.out HKD.out HK.out)
  clear hX hN htt
  go_upto_region 3 with (fail)
  have HX := Lib.hid S3.out.bt
  have HXL := Lib.hid S3.out.al
  have HL := Lib.hid S3.out.bl
  have HLL := Lib.hid S3.out.ll
  refine wp_region_invA (fun L e u => ∃ qo ql go gl, J2 w3 x p l pl L e u qo ql go gl) (by kernel_rfl) (by kernel_rfl) ?start ?steps ?rest
  case start =>
    exact ⟨alieZ, lieZ, 0, 0, below_drewN (Below.refl _ _) 1, fun h => (by cases h), fun h => (by cases h), fun h => (by cases h), fun h => (by cases h), fun h => (by cases h), fun h => (by cases h), fun h => (by cases h), fun h => (by cases h)⟩
  case steps =>
    refine ⟨?s0, ?s1, ?s2, ?s3, ?s4, ?s5, ?s6, ?s7, trivial⟩
    case s0 =>
      intro L a u hA hI hL hd
      obtain ⟨qo, ql, go, gl, J⟩ := hI
      have hsz : a.tmps.size = 84 := hA.size
      refine ⟨wanted_plain rfl, fun K Q hK => ?_⟩
      refine wp_val (run_loadT rfl (w.heap.size + 1) x p (hA.eval 7 rfl) (HX.out.on J.low)) ?_
      exact hK _ _ ⟨qo, ql, go, gl, ⟨J.low, fun _ => put_at _ (by rw [hsz]; decide), fun h => ⟨(put_ne _ (by decide)).trans (J.f1 h).1, (J.f1 h).2⟩, fun h => (put_ne _ (by decide)).trans (J.f2 h), fun h => ⟨(put_ne _ (by decide)).trans (J.f3 h).1, (J.f3 h).2⟩, fun h => ⟨(put_ne _ (by decide)).trans (J.f4 h).1, (J.f4 h).2.1, (J.f4 h).2.2⟩, fun h => ⟨(put_ne _ (by decide)).trans (J.f5 h).1, (J.f5 h).2.1, (J.f5 h).2.2⟩, fun h => ⟨setT (J.g6 h).1, setT (J.g6 h).2⟩, fun h => ⟨setT (J.g7 h).1, setT (J.g7 h).2⟩⟩⟩
    
    case s1 =>
      intro L a u hA hI hL hd
      obtain ⟨qo, ql, go, gl, J⟩ := hI
      have hsz : a.tmps.size = 84 := hA.size
      refine ⟨wanted_plain rfl, fun K Q hK => ?_⟩
      have k0 := ev_of (J.f0 (hd ⟨0, .data⟩ (by simp) rfl))
      refine wp_callx (f := 10) (args := #[x.v p]) (by unfold execOp; simp [go_sem, k0]) ((racopy_calls x p u (HXL.out.below J.low) HS.out).mono ?_)
      rintro e w' ⟨q, rfl, hC, hbn⟩
      exact ⟨_, rfl, hK _ _ ⟨q, ql, go, gl, ⟨J.low.trans (hbn.mono J.low.size), fun h => (put_ne _ (by decide)).trans (J.f0 h), fun _ => ⟨put_at _ (by rw [hsz]; decide), AOw.of hC⟩, fun h => (put_ne _ (by decide)).trans (J.f2 h), fun h => ⟨(put_ne _ (by decide)).trans (J.f3 h).1, (J.f3 h).2.below hbn⟩, fun h => ⟨(put_ne _ (by decide)).trans (J.f4 h).1, (J.f4 h).2.1, ((J.f4 h).2.2.on hbn).re (Bool.eq_false_iff.2 fun h6 => by have := (J.g6 h6).1; rw [hL] at this; cases this)⟩, fun h => ⟨(put_ne _ (by decide)).trans (J.f5 h).1, (J.f5 h).2.1, (J.f5 h).2.2.on hbn⟩, fun h => ⟨setT (J.g6 h).1, setT (J.g6 h).2⟩, fun h => ⟨setT (J.g7 h).1, setT (J.g7 h).2⟩⟩⟩⟩
    
    case s2 =>
      intro L a u hA hI hL hd
      obtain ⟨qo, ql, go, gl, J⟩ := hI
      have hsz : a.tmps.size = 84 := hA.size
      refine ⟨wanted_plain rfl, fun K Q hK => ?_⟩
      refine wp_val (run_loadL rfl (w.heap.size + 3) l pl (hA.eval 11 rfl) (HL.out.on J.low)) ?_
      exact hK _ _ ⟨qo, ql, go, gl, ⟨J.low, fun h => (put_ne _ (by decide)).trans (J.f0 h), fun h => ⟨(put_ne _ (by decide)).trans (J.f1 h).1, (J.f1 h).2⟩, fun _ => put_at _ (by rw [hsz]; decide), fun h => ⟨(put_ne _ (by decide)).trans (J.f3 h).1, (J.f3 h).2⟩, fun h => ⟨(put_ne _ (by decide)).trans (J.f4 h).1, (J.f4 h).2.1, (J.f4 h).2.2⟩, fun h => ⟨(put_ne _ (by decide)).trans (J.f5 h).1, (J.f5 h).2.1, (J.f5 h).2.2⟩, fun h => ⟨setT (J.g6 h).1, setT (J.g6 h).2⟩, fun h => ⟨setT (J.g7 h).1, setT (J.g7 h).2⟩⟩⟩
    
    case s3 =>
      intro L a u hA hI hL hd
      obtain ⟨qo, ql, go, gl, J⟩ := hI
      have hsz : a.tmps.size = 84 := hA.size
      refine ⟨wanted_plain rfl, fun K Q hK => ?_⟩
      have k0 := ev_of (J.f2 (hd ⟨2, .data⟩ (by simp) rfl))
      refine wp_callx (f := 22) (args := #[l.v pl]) (by unfold execOp; simp [go_sem, k0]) ((rcopy_calls l pl u (HLL.out.below J.low) HLS.out).mono ?_)
      rintro e w' ⟨q, rfl, hC, hbn⟩
      exact ⟨_, rfl, hK _ _ ⟨qo, q, go, gl, ⟨J.low.trans (hbn.mono J.low.size), fun h => (put_ne _ (by decide)).trans (J.f0 h), fun h => ⟨(put_ne _ (by decide)).trans (J.f1 h).1, (J.f1 h).2.below hbn⟩, fun h => (put_ne _ (by decide)).trans (J.f2 h), fun _ => ⟨put_at _ (by rw [hsz]; decide), LiesO.of hC⟩, fun h => ⟨(put_ne _ (by decide)).trans (J.f4 h).1, (J.f4 h).2.1, (J.f4 h).2.2.on hbn⟩, fun h => ⟨(put_ne _ (by decide)).trans (J.f5 h).1, (J.f5 h).2.1, ((J.f5 h).2.2.on hbn).re (Bool.eq_false_iff.2 fun h7 => by have := (J.g7 h7).1; rw [hL] at this; cases this)⟩, fun h => ⟨setT (J.g6 h).1, setT (J.g6 h).2⟩, fun h => ⟨setT (J.g7 h).1, setT (J.g7 h).2⟩⟩⟩⟩
    
    case s4 =>
      intro L a u hA hI hL hd
      obtain ⟨qo, ql, go, gl, J⟩ := hI
      have hsz : a.tmps.size = 84 := hA.size
      refine ⟨wanted_plain rfl, fun K Q hK => ?_⟩
      have hbn : Below u.heap.size u (u.alloc (.cells zAt 31)) := (Below.refl _ _).alloc (Nat.le_refl _) _
      refine wp_valx (w' := u.alloc (.cells zAt 31)) (v := .pointer (some ⟨u.heap.size, 0, none⟩)) (by unfold execOp; simp [go_sem]) ?_
      exact hK _ _ ⟨qo, ql, u.heap.size, gl, ⟨J.low.trans (hbn.mono J.low.size), fun h => (put_ne _ (by decide)).trans (J.f0 h), fun h => ⟨(put_ne _ (by decide)).trans (J.f1 h).1, (J.f1 h).2.below hbn⟩, fun h => (put_ne _ (by decide)).trans (J.f2 h), fun h => ⟨(put_ne _ (by decide)).trans (J.f3 h).1, (J.f3 h).2.below hbn⟩, fun _ => ⟨put_at _ (by rw [hsz]; decide), J.low.size, Cell4.new (heap_alloc_new u _) rfl (Bool.eq_false_iff.2 fun h6 => by have := (J.g6 h6).2; rw [hL] at this; cases this)⟩, fun h => ⟨(put_ne _ (by decide)).trans (J.f5 h).1, (J.f5 h).2.1, (J.f5 h).2.2.on hbn⟩, fun h => ⟨setT (J.g6 h).1, setT (J.g6 h).2⟩, fun h => ⟨setT (J.g7 h).1, setT (J.g7 h).2⟩⟩⟩
    
    case s5 =>
      intro L a u hA hI hL hd
      obtain ⟨qo, ql, go, gl, J⟩ := hI
      have hsz : a.tmps.size = 84 := hA.size
      refine ⟨wanted_plain rfl, fun K Q hK => ?_⟩
      have hbn : Below u.heap.size u (u.alloc (.cells zC 28)) := (Below.refl _ _).alloc (Nat.le_refl _) _
      refine wp_valx (w' := u.alloc (.cells zC 28)) (v := .pointer (some ⟨u.heap.size, 0, none⟩)) (by unfold execOp; simp [go_sem]) ?_
      exact hK _ _ ⟨qo, ql, go, u.heap.size, ⟨J.low.trans (hbn.mono J.low.size), fun h => (put_ne _ (by decide)).trans (J.f0 h), fun h => ⟨(put_ne _ (by decide)).trans (J.f1 h).1, (J.f1 h).2.below hbn⟩, fun h => (put_ne _ (by decide)).trans (J.f2 h), fun h => ⟨(put_ne _ (by decide)).trans (J.f3 h).1, (J.f3 h).2.below hbn⟩, fun h => ⟨(put_ne _ (by decide)).trans (J.f4 h).1, (J.f4 h).2.1, (J.f4 h).2.2.on hbn⟩, fun _ => ⟨put_at _ (by rw [hsz]; decide), J.low.size, Cell4.new (heap_alloc_new u _) rfl (Bool.eq_false_iff.2 fun h7 => by have := (J.g7 h7).2; rw [hL] at this; cases this)⟩, fun h => ⟨setT (J.g6 h).1, setT (J.g6 h).2⟩, fun h => ⟨setT (J.g7 h).1, setT (J.g7 h).2⟩⟩⟩
    
    case s6 =>
      intro L a u hA hI hL hd
      obtain ⟨qo, ql, go, gl, J⟩ := hI
      have hsz : a.tmps.size = 84 := hA.size
      refine ⟨wanted_plain rfl, fun K Q hK => ?_⟩
      have h4 : L 4 = true := hd ⟨4, .data⟩ (by simp) rfl
      have h1 : L 1 = true := hd ⟨1, .data⟩ (by simp) rfl
      have k13 := (J.f4 h4).1
      have k33 := (J.f1 h1).1
      obtain ⟨Cg, hgo, hsg, _⟩ := (J.f4 h4).2.2
      have hne : ∀ {T : TypeId} {C : Array Value} {g' : Nat}, u.heap[g']? = some (.cells C T (0, 0)) → 31 ≠ T → g' ≠ go := fun {T C g'} h hT e => by
        rw [e, hgo] at h
        injection h with h
        injection h with _ h
        exact hT h
      refine wp_opskip (w' := u.setRow go (At.c x qo)) (by
        unfold execOp
        simp only [k13, k33, Instr.storeAt, Instr.sureAddr, Sem.run_bind, Sem.run_pure, Result.andThen_ok, run_storeVar_row u go 31 31 Cg (At.c x qo) hgo (c_size x qo) hsg (c_one x qo)]) ?_
      exact hK _ _ ⟨qo, ql, go, gl, ⟨below_setRow J.low (J.f4 h4).2.1 _, fun h => J.f0 h, fun h => ⟨(J.f1 h).1, (J.f1 h).2.turn hgo _⟩, fun h => J.f2 h, fun h => ⟨(J.f3 h).1, (J.f3 h).2.turn hgo (by decide) _⟩, fun h => ⟨(J.f4 h).1, (J.f4 h).2.1, At.c x qo, setRow_heap _ _ _ _ _ _ hgo, rfl, fun _ => rfl⟩, fun h => ⟨(J.f5 h).1, (J.f5 h).2.1, (J.f5 h).2.2.other (fun hh => hne hh (by decide)) _⟩, fun _ => ⟨setT h1, setT h4⟩, fun h => ⟨setT (J.g7 h).1, setT (J.g7 h).2⟩⟩⟩
    
    case s7 =>
      intro L a u hA hI hL hd
      obtain ⟨qo, ql, go, gl, J⟩ := hI
      have hsz : a.tmps.size = 84 := hA.size
      refine ⟨wanted_plain rfl, fun K Q hK => ?_⟩
      have h5 : L 5 = true := hd ⟨5, .data⟩ (by simp) rfl
      have h3 : L 3 = true := hd ⟨3, .data⟩ (by simp) rfl
      have k14 := (J.f5 h5).1
      have k35 := (J.f3 h3).1
      obtain ⟨Cg, hgl, hsg, _⟩ := (J.f5 h5).2.2
      have hne : ∀ {T : TypeId} {C : Array Value} {g' : Nat}, u.heap[g']? = some (.cells C T (0, 0)) → 28 ≠ T → g' ≠ gl := fun {T C g'} h hT e => by
        rw [e, hgl] at h
        injection h with h
        injection h with _ h
        exact hT h
      refine wp_opskip (w' := u.setRow gl (Ac.c l ql)) (by
        unfold execOp
        simp only [k14, k35, Instr.storeAt, Instr.sureAddr, Sem.run_bind, Sem.run_pure, Result.andThen_ok, run_storeVar_row u gl 28 28 Cg (Ac.c l ql) hgl acl_size hsg (by rw [← Array.all_toList]; rfl)]) ?_
      exact hK _ _ ⟨qo, ql, go, gl, ⟨below_setRow J.low (J.f5 h5).2.1 _, fun h => J.f0 h, fun h => ⟨(J.f1 h).1, (J.f1 h).2.turnT hgl (by decide) (by decide) _⟩, fun h => J.f2 h, fun h => ⟨(J.f3 h).1, (J.f3 h).2.turn hgl (by decide) _⟩, fun h => ⟨(J.f4 h).1, (J.f4 h).2.1, (J.f4 h).2.2.other (fun hh => hne hh (by decide)) _⟩, fun h => ⟨(J.f5 h).1, (J.f5 h).2.1, Ac.c l ql, setRow_heap _ _ _ _ _ _ hgl, rfl, fun _ => rfl⟩, fun h => ⟨setT (J.g6 h).1, setT (J.g6 h).2⟩, fun _ => ⟨setT h3, setT h5⟩⟩⟩
  case rest =>
    intro L vs u hI hall
    obtain ⟨qo, ql, go, gl, J⟩ := hI
    obtain ⟨e13, hgo, C1, h1, _, h2⟩ := J.f4 (hall 4 (by decide))
    obtain ⟨e14, hgl, C2, h3, _, h4⟩ := J.f5 (hall 5 (by decide))
    have h5 := h2 (hall 6 (by decide))
    have h6 := h4 (hall 7 (by decide))
    subst h5 h6
    have Hgo : Hid (Hl u go x qo) := Lib.hid ⟨h1, (J.f1 (hall 1 (by decide))).2.lies⟩
    have Hgl : Hid (Hq u gl l ql) := Lib.hid ⟨h3, (J.f3 (hall 3 (by decide))).2.lies⟩
    have S := Lib.hid (S3.out.on J.low)
    have e13' : vs 4 = .pointer (some ⟨go, 0, none⟩) := e13
    have e14' : vs 5 = .pointer (some ⟨gl, 0, none⟩) := e14
    clear h1 h2 h3 h4 hgo hgl J e13 e14 hall HX HXL HL HLL S3
    simp only [putsFrom, Act.put, List.setIfInBounds_toArray, List.set_cons_succ, List.set_cons_zero, e13', e14']
    generalize vs 0 = z0
    generalize vs 1 = z1
    generalize vs 2 = z2
    generalize vs 3 = z3
    clear e13' e14'
    go_wp2_with (first
      | (refine wpList_load_part rfl 25 (.tmp 6) rfl w.heap.size 0 rfl (Cr.c c A n).toList _ (S.out.cb).all Try.underlying25 rfl cred_size (Cr.v c A n) rfl ?_)
      | (refine wpList_load_part rfl 31 (.tmp 13) rfl go 0 rfl (At.c x qo).toList _ (Hgo.out.bt).bt0 Try.underlying31 rfl attr_size (At.v x qo) rfl ?_)
      | (refine wpList_load_part rfl 28 (.tmp 14) rfl gl 0 rfl (Ac.c l ql).toList _ (Hgl.out.ab.part) Try.underlying28 rfl acl_size (Ac.v l ql) rfl ?_))
    refine (HC1.out qo ql u S.out.cl Hgo.out.li Hgl.out.li).mono ?_
    rintro e w5 ⟨rw1, rfl, how, hb⟩
    have S := Lib.hid (S.out.on hb)
    have Hgo := Lib.hid (Hgo.out.on hb)
    have Hgl := Lib.hid (Hgl.out.on hb)
    have hl := how.lies
    clear hb how
    obtain ⟨C, hC⟩ : ∃ C, C = At.c (X) rw1 := ⟨_, rfl⟩
    have hone : C.all (·.oneCell') = true := by rw [hC]; exact c_one _ _
    have hsz : (Try.prog.info? 31).map (·.size) = some C.size := by rw [hC]; exact c_size _ _
    have hold : (zAt : Array Value).size = C.size := by rw [hC]; rfl
    have HZn := Lib.hid (heap_alloc_new w5 (.cells zAt 31))
    obtain ⟨U1, hU⟩ : ∃ Zz, Zz = (w5.alloc (.cells zAt 31)).setRow w5.heap.size C := ⟨_, rfl⟩
    obtain ⟨g1, hg⟩ : ∃ Zz, Zz = w5.heap.size := ⟨_, rfl⟩
    have bu : Below w5.heap.size w5 U1 := by rw [hU]; exact put_below w5 C
    have Hg1 : Hid (Hl U1 g1 (X) rw1) := Lib.hid (by rw [hU, hg, hC]; exact Hl.put hl)
    have HGg1 : Hid (w5.heap.size ≤ g1) := Lib.hid (by omega)
    have S := Lib.hid (S.out.on bu)
    have Hgo := Lib.hid (Hgo.out.on bu)
    have Hgl := Lib.hid (Hgl.out.on bu)
    
    have HUU := Lib.hid hU
    rw [show At.v (X) rw1 = .agg C by rw [hC]]
    clear hC bu hU hl HC1
    go_upto_region 5 with (refine wpList_store_rowTo rfl 31 (.tmp 15) (.tmp 43) rfl rfl w5.heap.size C rfl rfl 31 _ HZn.out hsz hold hone ?_; rw [← HUU.out])
    clear HUU HZn hsz hold hone
    rw [← hg]
    clear hg
    go_wp2_with (first
      | (refine wpList_load_part rfl 25 (.tmp 6) rfl w.heap.size 0 rfl (Cr.c c A n).toList _ (S.out.cb).all Try.underlying25 rfl cred_size (Cr.v c A n) rfl ?_)
      | (refine wpList_load_part rfl 31 (.tmp 7) rfl (w.heap.size + 1) 0 rfl (At.c x p).toList _ (S.out.bt).bt0 Try.underlying31 rfl attr_size (At.v x p) rfl ?_)
      | (refine wpList_load_part rfl 28 (.tmp 11) rfl (w.heap.size + 3) 0 rfl (Ac.c l pl).toList _ (S.out.bl.part) Try.underlying28 rfl acl_size (Ac.v l pl) rfl ?_))
    refine (HC2.out U1 S.out.cl S.out.al S.out.ll).mono ?_
    rintro e w6 ⟨rw2, rfl, how, hb⟩
    have S := Lib.hid (S.out.on hb)
    have Hgo := Lib.hid (Hgo.out.on hb)
    have Hgl := Lib.hid (Hgl.out.on hb)
    have Hg1 := Lib.hid (Hg1.out.on hb)
    have hl := how.lies
    clear hb how
    obtain ⟨C, hC⟩ : ∃ C, C = At.c (X) rw2 := ⟨_, rfl⟩
    have hone : C.all (·.oneCell') = true := by rw [hC]; exact c_one _ _
    have hsz : (Try.prog.info? 31).map (·.size) = some C.size := by rw [hC]; exact c_size _ _
    have hold : (zAt : Array Value).size = C.size := by rw [hC]; rfl
    have HZn := Lib.hid (heap_alloc_new w6 (.cells zAt 31))
    obtain ⟨U2, hU⟩ : ∃ Zz, Zz = (w6.alloc (.cells zAt 31)).setRow w6.heap.size C := ⟨_, rfl⟩
    obtain ⟨g2, hg⟩ : ∃ Zz, Zz = w6.heap.size := ⟨_, rfl⟩
    have bu : Below w6.heap.size w6 U2 := by rw [hU]; exact put_below w6 C
    have Hg2 : Hid (Hl U2 g2 (X) rw2) := Lib.hid (by rw [hU, hg, hC]; exact Hl.put hl)
    have HGg2 : Hid (w6.heap.size ≤ g2) := Lib.hid (by omega)
    have S := Lib.hid (S.out.on bu)
    have Hgo := Lib.hid (Hgo.out.on bu)
    have Hgl := Lib.hid (Hgl.out.on bu)
    have Hg1 := Lib.hid (Hg1.out.on bu)
    
    have HUU := Lib.hid hU
    rw [show At.v (X) rw2 = .agg C by rw [hC]]
    clear hC bu hU hl HC2
    go_upto_region 6 with (refine wpList_store_rowTo rfl 31 (.tmp 17) (.tmp 52) rfl rfl w6.heap.size C rfl rfl 31 _ HZn.out hsz hold hone ?_; rw [← HUU.out])
    clear HUU HZn hsz hold hone
    rw [← hg]
    clear hg
    refine wp_region4 [.val (At.v (X) rw1), .val (.int .i64 N), .val (At.v (X) rw2), .val (.int .i64 N), .val (.bool true), .val (.bool true), .val (Cr.v c A n), .val (At.v (d) pd), .att (d), .val (At.v (x) qo), .val (.bool tt), .val (Cr.v c A n), .val (At.v (d) pd), .val (At.v (x) p), .val (.bool tt), .val (.bool true), .val (.bool true), .val (.bool true), .val (At.v (x) qo), .val (At.v (x) p), .val (.bool true), .val (.bool true), .val (.bool true), .val (Ac.v (l) ql), .val (Ac.v (l) pl), .val (.bool true), .val (.bool true), .val (.bool true), .val (.bool true), .val (.bool true), .val (.bool true)] (by kernel_rfl) (by kernel_rfl) (by kernel_rfl) ?steps ?rest
    case steps =>
      refine ⟨?s0, ?s1, ?s2, ?s3, ?s4, ?s5, ?s6, ?s7, ?s8, ?s9, ?s10, ?s11, ?s12, ?s13, ?s14, ?s15, ?s16, ?s17, ?s18, ?s19, ?s20, ?s21, ?s22, ?s23, ?s24, ?s25, ?s26, ?s27, ?s28, ?s29, ?s30, trivial⟩
      case s0 =>
        exact st4_val _ rfl (.inl rfl) fun a u hb hA hd => run_loadT rfl g1 (X) rw1 (hA.eval 15 rfl) ((Hg1.out.bt).on hb)
      case s1 =>
        exact st4_val _ rfl (.inl rfl) fun a u hb hA hd => by
          have q0 := ev_of (show a.eval (.tmp 16) = .int .i64 N from hA.eval 16 rfl)
          unfold execOp
          simp [go_sem, q0]
      case s2 =>
        exact st4_val _ rfl (.inl rfl) fun a u hb hA hd => run_loadT rfl g2 (X) rw2 (hA.eval 17 rfl) ((Hg2.out.bt).on hb)
      case s3 =>
        exact st4_val _ rfl (.inl rfl) fun a u hb hA hd => by
          have q0 := ev_of (show a.eval (.tmp 18) = .int .i64 N from hA.eval 18 rfl)
          unfold execOp
          simp [go_sem, q0]
      case s4 =>
        refine st4_call _ rfl (.inl rfl) 15 fun a u hb hA hd => ?_
        have q0 := ev_of (show a.eval (.tmp 54) = At.v (X) rw1 from hd 0 54 rfl rfl _ rfl)
        have q1 := ev_of (show a.eval (.tmp 55) = .int .i64 N from hd 1 55 rfl rfl _ rfl)
        have q2 := ev_of (show a.eval (.tmp 56) = At.v (X) rw2 from hd 2 56 rfl rfl _ rfl)
        have q3 := ev_of (show a.eval (.tmp 57) = .int .i64 N from hd 3 57 rfl rfl _ rfl)
        refine ⟨#[At.v (X) rw1, .int .i64 N, At.v (X) rw2, .int .i64 N], ?_, (same_self X rw1 rw2 N u ((Hg1.out.li).below hb) ((Hg2.out.li).below hb) (asm_of HMX.out)).mono ?_⟩
        · unfold execOp
          simp [go_sem, q0, q1, q2, q3]
        · rintro e w' ⟨rfl, hb'⟩
          exact ⟨_, rfl, rfl, hb'⟩
      case s5 =>
        exact st4_move 4 58 rfl (.inl rfl) rfl rfl rfl
      case s6 =>
        exact st4_val _ rfl (.inr ⟨5, 59, true, rfl, rfl, rfl, rfl⟩) fun a u hb hA hd => run_loadC rfl w.heap.size c A n (hA.eval 6 rfl) ((S.out.cb).on hb)
      case s7 =>
        exact st4_val _ rfl (.inr ⟨5, 59, true, rfl, rfl, rfl, rfl⟩) fun a u hb hA hd => run_loadT rfl (w.heap.size + 2) (d) pd (hA.eval 8 rfl) ((S.out.bd).on hb)
      case s8 =>
        refine st4_call _ rfl (.inr ⟨5, 59, true, rfl, rfl, rfl, rfl⟩) 10 fun a u hb hA hd => ?_
        have q0 := ev_of (show a.eval (.tmp 61) = At.v (d) pd from hd 7 61 rfl rfl _ rfl)
        refine ⟨#[At.v (d) pd], ?_, (racopy_att d pd u ((S.out.dl).below hb) HSD.out).mono ?_⟩
        · unfold execOp
          simp [go_sem, q0]
        · rintro e w' ⟨r, rfl, hlr, hb'⟩
          exact ⟨_, rfl, ⟨r, rfl, hlr⟩, hb'⟩
      case s9 =>
        exact st4_val _ rfl (.inr ⟨5, 59, true, rfl, rfl, rfl, rfl⟩) fun a u hb hA hd => run_loadT rfl go (x) qo (hA.eval 13 rfl) ((Hgo.out.bt).on hb)
      case s10 =>
        refine st4_call _ rfl (.inr ⟨5, 59, true, rfl, rfl, rfl, rfl⟩) 25 fun a u hb hA hd => ?_
        have q0 := ev_of (show a.eval (.tmp 60) = Cr.v c A n from hd 6 60 rfl rfl _ rfl)
        obtain ⟨r1, e1, l1⟩ := (show ∃ p, a.eval (.tmp 62) = At.v (d) p ∧ ALies u (d) p from hd 8 62 rfl rfl _ rfl)
        have q1 := ev_of e1
        have q2 := ev_of (show a.eval (.tmp 63) = At.v (x) qo from hd 9 63 rfl rfl _ rfl)
        refine ⟨#[Cr.v c A n, At.v (d) r1, At.v (x) qo], ?_, (HR1.out r1 qo u ((S.out.cl).below hb) (l1) ((Hgo.out.li).below hb)).mono ?_⟩
        · unfold execOp
          simp [go_sem, q0, q1, q2]
        · rintro e w' ⟨rfl, hb'⟩
          exact ⟨_, rfl, rfl, hb'⟩
      case s11 =>
        exact st4_val _ rfl (.inr ⟨5, 59, true, rfl, rfl, rfl, rfl⟩) fun a u hb hA hd => run_loadC rfl w.heap.size c A n (hA.eval 6 rfl) ((S.out.cb).on hb)
      case s12 =>
        exact st4_val _ rfl (.inr ⟨5, 59, true, rfl, rfl, rfl, rfl⟩) fun a u hb hA hd => run_loadT rfl (w.heap.size + 2) (d) pd (hA.eval 8 rfl) ((S.out.bd).on hb)
      case s13 =>
        exact st4_val _ rfl (.inr ⟨5, 59, true, rfl, rfl, rfl, rfl⟩) fun a u hb hA hd => run_loadT rfl (w.heap.size + 1) (x) p (hA.eval 7 rfl) ((S.out.bt).on hb)
      case s14 =>
        refine st4_call _ rfl (.inr ⟨5, 59, true, rfl, rfl, rfl, rfl⟩) 26 fun a u hb hA hd => ?_
        have q0 := ev_of (show a.eval (.tmp 65) = Cr.v c A n from hd 11 65 rfl rfl _ rfl)
        have q1 := ev_of (show a.eval (.tmp 66) = At.v (d) pd from hd 12 66 rfl rfl _ rfl)
        have q2 := ev_of (show a.eval (.tmp 67) = At.v (x) p from hd 13 67 rfl rfl _ rfl)
        refine ⟨#[Cr.v c A n, At.v (d) pd, At.v (x) p], ?_, (HR2.out u ((S.out.cl).below hb) ((S.out.dl).below hb) ((S.out.al).below hb)).mono ?_⟩
        · unfold execOp
          simp [go_sem, q0, q1, q2]
        · rintro e w' ⟨rfl, hb'⟩
          exact ⟨_, rfl, rfl, hb'⟩
      case s15 =>
        exact st4_val _ rfl (.inr ⟨5, 59, true, rfl, rfl, rfl, rfl⟩) fun a u hb hA hd => by
          have q0 := ev_of (show a.eval (.tmp 64) = .bool tt from hd 10 64 rfl rfl _ rfl)
          have q1 := ev_of (show a.eval (.tmp 68) = .bool tt from hd 14 68 rfl rfl _ rfl)
          unfold execOp
          simp [go_sem, q0, q1]
      case s16 =>
        exact st4_val _ rfl (.inl rfl) fun a u hb hA hd => by
          have q0 := hd 5 59 rfl rfl _ rfl
          have q1 := hd 15 69 rfl rfl _ rfl
          rw [run_pickT rfl q0]
          exact congrArg (fun z => Result.ok (Next.value z) u) q1
      case s17 =>
        exact st4_move 16 70 rfl (.inl rfl) rfl rfl rfl
      case s18 =>
        exact st4_val _ rfl (.inr ⟨17, 71, true, rfl, rfl, rfl, rfl⟩) fun a u hb hA hd => run_loadT rfl go (x) qo (hA.eval 13 rfl) ((Hgo.out.bt).on hb)
      case s19 =>
        exact st4_val _ rfl (.inr ⟨17, 71, true, rfl, rfl, rfl, rfl⟩) fun a u hb hA hd => run_loadT rfl (w.heap.size + 1) (x) p (hA.eval 7 rfl) ((S.out.bt).on hb)
      case s20 =>
        refine st4_call _ rfl (.inr ⟨17, 71, true, rfl, rfl, rfl, rfl⟩) 18 fun a u hb hA hd => ?_
        have q0 := ev_of (show a.eval (.tmp 72) = At.v (x) qo from hd 18 72 rfl rfl _ rfl)
        have q1 := ev_of (show a.eval (.tmp 73) = At.v (x) p from hd 19 73 rfl rfl _ rfl)
        refine ⟨#[At.v (x) qo, At.v (x) p], ?_, (rasame_self x qo p u ((Hgo.out.li).below hb) ((S.out.al).below hb) HS.out).mono ?_⟩
        · unfold execOp
          simp [go_sem, q0, q1]
        · rintro e w' ⟨rfl, hb'⟩
          exact ⟨_, rfl, rfl, hb'⟩
      case s21 =>
        exact st4_val _ rfl (.inl rfl) fun a u hb hA hd => by
          have q0 := hd 17 71 rfl rfl _ rfl
          have q1 := hd 20 74 rfl rfl _ rfl
          rw [run_pickT rfl q0]
          exact congrArg (fun z => Result.ok (Next.value z) u) q1
      case s22 =>
        exact st4_move 21 75 rfl (.inl rfl) rfl rfl rfl
      case s23 =>
        exact st4_val _ rfl (.inr ⟨22, 76, true, rfl, rfl, rfl, rfl⟩) fun a u hb hA hd => run_loadL rfl gl (l) ql (hA.eval 14 rfl) ((Hgl.out.ab).on hb)
      case s24 =>
        exact st4_val _ rfl (.inr ⟨22, 76, true, rfl, rfl, rfl, rfl⟩) fun a u hb hA hd => run_loadL rfl (w.heap.size + 3) (l) pl (hA.eval 11 rfl) ((S.out.bl).on hb)
      case s25 =>
        refine st4_call _ rfl (.inr ⟨22, 76, true, rfl, rfl, rfl, rfl⟩) 27 fun a u hb hA hd => ?_
        have q0 := ev_of (show a.eval (.tmp 77) = Ac.v (l) ql from hd 23 77 rfl rfl _ rfl)
        have q1 := ev_of (show a.eval (.tmp 78) = Ac.v (l) pl from hd 24 78 rfl rfl _ rfl)
        refine ⟨#[Ac.v (l) ql, Ac.v (l) pl], ?_, (rlsame_self l ql pl u ((Hgl.out.li).below hb) ((S.out.ll).below hb) HLS.out).mono ?_⟩
        · unfold execOp
          simp [go_sem, q0, q1]
        · rintro e w' ⟨rfl, hb'⟩
          exact ⟨_, rfl, rfl, hb'⟩
      case s26 =>
        exact st4_val _ rfl (.inl rfl) fun a u hb hA hd => by
          have q0 := hd 22 76 rfl rfl _ rfl
          have q1 := hd 25 79 rfl rfl _ rfl
          rw [run_pickT rfl q0]
          exact congrArg (fun z => Result.ok (Next.value z) u) q1
      case s27 =>
        exact st4_move 26 80 rfl (.inl rfl) rfl rfl rfl
      case s28 =>
        refine st4_call _ rfl (.inr ⟨27, 81, true, rfl, rfl, rfl, rfl⟩) 9 fun a u hb hA hd => ?_
        refine ⟨#[], ?_, (alive_calls u).mono ?_⟩
        · unfold execOp
          simp [go_sem]
        · rintro e w' ⟨rfl, hb'⟩
          exact ⟨_, rfl, rfl, hb'⟩
      case s29 =>
        exact st4_val _ rfl (.inl rfl) fun a u hb hA hd => by
          have q0 := hd 27 81 rfl rfl _ rfl
          have q1 := hd 28 82 rfl rfl _ rfl
          rw [run_pickT rfl q0]
          exact congrArg (fun z => Result.ok (Next.value z) u) q1
      case s30 =>
        exact st4_assign 29 83 rfl (.inl rfl) rfl rfl rfl
    case rest =>
      intro vs u hb hR
      have ee : vs 30 = .bool true := hR 30 (by decide)
      have HBE9 := Lib.hid (S.out.on hb).be
      simp only [putsFrom, Act.put, List.setIfInBounds_toArray, List.set_cons_succ, List.set_cons_zero, ee]
      generalize vs 0 = z0
      generalize vs 1 = z1
      generalize vs 2 = z2
      generalize vs 3 = z3
      generalize vs 4 = z4
      generalize vs 5 = z5
      generalize vs 6 = z6
      generalize vs 7 = z7
      generalize vs 8 = z8
      generalize vs 9 = z9
      generalize vs 10 = z10
      generalize vs 11 = z11
      generalize vs 12 = z12
      generalize vs 13 = z13
      generalize vs 14 = z14
      generalize vs 15 = z15
      generalize vs 16 = z16
      generalize vs 17 = z17
      generalize vs 18 = z18
      generalize vs 19 = z19
      generalize vs 20 = z20
      generalize vs 21 = z21
      generalize vs 22 = z22
      generalize vs 23 = z23
      generalize vs 24 = z24
      generalize vs 25 = z25
      generalize vs 26 = z26
      generalize vs 27 = z27
      generalize vs 28 = z28
      generalize vs 29 = z29
      clear hR hb
      go_wp2_with (fail)
      go_ret
      exact ⟨rfl, HBE9.out⟩
end Go.Proofs.Ytdioafoikcfhhaa
