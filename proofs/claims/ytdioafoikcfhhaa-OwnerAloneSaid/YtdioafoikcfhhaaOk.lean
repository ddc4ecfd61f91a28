/- The program's Chown, from without. -/
import Derived.Test.YtdioafoikcfhhaaOj
set_option linter.unusedSimpArgs false
set_option linter.unusedVariables false
set_option linter.unusedSimpArgs false
set_option linter.unusedVariables false
namespace Go.Proofs.Ytdioafoikcfhhaa
open Go.RowKit
theorem cho_eqN (c : Cr) (x : At) (u g : Int) : chgN c x (choM c x u g) = choN c x u g := rfl
theorem cho_eqA (c : Cr) (x : At) (k : Nat) (u g : Int) : chgA c x (choM c x u g) (choX x k u g) = choA c x k u g := by
  unfold chgA choA choN choM
  cases validB c x <;> rfl
set_option maxRecDepth 100000 in
set_option maxHeartbeats 4000000 in
theorem chowno_calls (c : Cr) (A : Option Addr) (n : Nat) (x : At) (p : ALie) (k : Nat) (u g : Int) (w : World) (hc : CLies w c A) (h : ALies w x p) (hs : ASm x)  :
    Calls Try.prog 13 #[c.v A n, x.v p, .int .u8 (k : Nat), .int .i64 u, .int .i64 g] w fun e w' => ∃ q, e = .returned (.tuple #[At.v (choA c x k u g) q, .int .i64 (choN c x u g)]) ∧ AOw w' (choA c x k u g) q ∧ Below w.heap.size w w' := by
  have hmf : ∀ (fn : Fn) (first cap : Array Value) (w : World), (Instr.makeFunc fn first cap).run Try.prog w = .ok (.func fn first cap) w := fun _ _ _ _ => rfl
  obtain ⟨V, hV⟩ : ∃ V, V = (((((w.alloc (.cells (c.c A n) 25)).alloc (.cells (x.c p) 31)).alloc (.cells #[.int .u8 (k : Nat)] 5)).alloc (.cells #[.int .i64 u] 3)).alloc (.cells #[.int .i64 g] 3)).alloc (.cells zAt 31) := ⟨_, rfl⟩
  have S0 : Hid (Pb w V c A n x p) := Lib.hid (by rw [hV]; exact (((((Pb.start hc h).one _).one _).one _).one _))
  have HZ : Hid (V.heap[w.heap.size + 5]? = some (.cells zAt 31 (0, 0))) := Lib.hid (by
    rw [hV]
    have := heap_alloc_new (((((w.alloc (.cells (c.c A n) 25)).alloc (.cells (x.c p) 31)).alloc (.cells #[.int .u8 (k : Nat)] 5)).alloc (.cells #[.int .i64 u] 3)).alloc (.cells #[.int .i64 g] 3)) (.cells zAt 31)
    simpa only [World.size_alloc, Nat.add_assoc] using this)
  have HCH : Hid (Calls Try.prog 35 #[c.v A n, x.v p, .func (.func 43) #[] #[.pointer (some ⟨w.heap.size + 3, 0, none⟩), .pointer (some ⟨w.heap.size + 4, 0, none⟩), .pointer (some ⟨w.heap.size, 0, none⟩), .pointer (some ⟨w.heap.size + 2, 0, none⟩)]] V fun e w' => ∃ q, e = .returned (.tuple #[At.v (choA c x k u g) q, .int .i64 (choN c x u g)]) ∧ AOw w' (choA c x k u g) q ∧ Below V.heap.size V w') := Lib.hid (by
    have hk2 : V.heap[w.heap.size + 2]? = some (.cells #[.int .u8 (k : Nat)] 5 (0, 0)) := by
      rw [hV]
      rw [heap_alloc_old _ _ (by simp only [World.size_alloc]; omega), heap_alloc_old _ _ (by simp only [World.size_alloc]; omega), heap_alloc_old _ _ (by simp only [World.size_alloc]; omega)]
      have := heap_alloc_new ((w.alloc (.cells (c.c A n) 25)).alloc (.cells (x.c p) 31)) (.cells #[.int .u8 (k : Nat)] 5)
      simpa only [World.size_alloc, Nat.add_assoc] using this
    have hu2 : V.heap[w.heap.size + 3]? = some (.cells #[.int .i64 u] 3 (0, 0)) := by
      rw [hV]
      rw [heap_alloc_old _ _ (by simp only [World.size_alloc]; omega), heap_alloc_old _ _ (by simp only [World.size_alloc]; omega)]
      have := heap_alloc_new (((w.alloc (.cells (c.c A n) 25)).alloc (.cells (x.c p) 31)).alloc (.cells #[.int .u8 (k : Nat)] 5)) (.cells #[.int .i64 u] 3)
      simpa only [World.size_alloc, Nat.add_assoc] using this
    have hg2 : V.heap[w.heap.size + 4]? = some (.cells #[.int .i64 g] 3 (0, 0)) := by
      rw [hV]
      rw [heap_alloc_old _ _ (by simp only [World.size_alloc]; omega)]
      have := heap_alloc_new ((((w.alloc (.cells (c.c A n) 25)).alloc (.cells (x.c p) 31)).alloc (.cells #[.int .u8 (k : Nat)] 5)).alloc (.cells #[.int .i64 u] 3)) (.cells #[.int .i64 g] 3)
      simpa only [World.size_alloc, Nat.add_assoc] using this
    have hh := changed_calls c A n x p 43 #[.pointer (some ⟨w.heap.size + 3, 0, none⟩), .pointer (some ⟨w.heap.size + 4, 0, none⟩), .pointer (some ⟨w.heap.size, 0, none⟩), .pointer (some ⟨w.heap.size + 2, 0, none⟩)] (choX x k u g) (choM c x u g) V S0.out.cl S0.out.al hs
      (fun args W => run_enter Try.func43 rfl rfl args W)
      (fun hv q W how hbW => chown1_calls c A n x q w.heap.size (w.heap.size + 3) (w.heap.size + 4) (w.heap.size + 2) k u g W hv how (S0.out.cb.on hbW) (S0.out.cl.below hbW) (one_at hu2 hbW) (one_at hg2 hbW) (one_at hk2 hbW))
    rw [cho_eqN, cho_eqA] at hh
    exact hh)
  obtain ⟨X, hX⟩ : ∃ X, choA c x k u g = X := ⟨_, rfl⟩
  obtain ⟨N, hN⟩ : ∃ N, choN c x u g = N := ⟨_, rfl⟩
  rw [hX, hN] at HCH ⊢
  clear hc h hs hX hN
  go_enter Try.func13, Try.ntmps13
  go_upto_region 1 with (fail)
  rw [← hV]
  clear hV
  go_wp2_with (first
  | (refine wpList_load_part rfl 25 (.tmp 5) rfl w.heap.size 0 rfl (Cr.c c A n).toList _ (S0.out.cb).all Try.underlying25 rfl cred_size (Cr.v c A n) rfl ?_)
  | (refine wpList_load_part rfl 31 (.tmp 6) rfl (w.heap.size + 1) 0 rfl (At.c x p).toList _ (S0.out.bt).bt0 Try.underlying31 rfl attr_size (At.v x p) rfl ?_))
  refine HCH.out.mono ?_
  rintro e w1 ⟨q, rfl, how, hb⟩
  have S1 := Lib.hid (S0.out.on hb)
  have HZ1 : Hid (w1.heap[w.heap.size + 5]? = some (.cells zAt 31 (0, 0))) := Lib.hid ((hb.block _ (lt_of_cells HZ.out)).trans HZ.out)
  clear hb S0 HZ HCH hmf
  obtain ⟨C, hC⟩ : ∃ C, C = At.c X q := ⟨_, rfl⟩
  have hone : C.all (·.oneCell') = true := by rw [hC]; exact c_one _ _
  have hsz : (Try.prog.info? 31).map (·.size) = some C.size := by rw [hC]; exact c_size _ _
  have hold : (zAt : Array Value).size = C.size := by rw [hC]; rfl
  obtain ⟨Z, hZ⟩ : ∃ Z, Z = World.setRow w1 (w.heap.size + 5) C := ⟨_, rfl⟩
  have HR : Hid (Z.heap[w.heap.size + 5]? = some (.cells C 31 (0, 0))) := Lib.hid (by rw [hZ]; exact setRow_heap _ _ _ _ _ _ HZ1.out)
  have HO := Lib.hid (how.turn HZ1.out C)
  have HB : Hid (Below w.heap.size w Z) := Lib.hid (by rw [hZ]; exact below_setRow S1.out.be (by omega) _)
  rw [← hZ] at HO
  have HC := Lib.hid hC
  rw [show At.v X q = .agg C by rw [hC]]
  clear hC how
  go_wp2_with (refine wpList_store_rowTo rfl 31 (.tmp 10) (.tmp 16) rfl rfl (w.heap.size + 5) C rfl rfl 31 _ HZ1.out hsz hold hone ?_; rw [← hZ])
  exact bodyPost_ret (results_row_tmp rfl _ _ (w.heap.size + 5) 31 C (0, 0) _ (.int .i64 N) rfl HR.out rfl Try.underlying31 rfl hsz) rfl ⟨q, by rw [HC.out], HO.out, HB.out⟩
end Go.Proofs.Ytdioafoikcfhhaa
