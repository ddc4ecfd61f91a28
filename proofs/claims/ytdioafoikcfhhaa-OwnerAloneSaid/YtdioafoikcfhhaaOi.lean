/- The program's Chmod, from without. -/
import Derived.Test.YtdioafoikcfhhaaOh
set_option linter.unusedSimpArgs false
set_option linter.unusedVariables false
set_option linter.unusedSimpArgs false
set_option linter.unusedVariables false
namespace Go.Proofs.Ytdioafoikcfhhaa
open Go.RowKit
theorem Pb.one {w V : World} {c : Cr} {A : Option Addr} {n : Nat} {x : At} {p : ALie} (h : Pb w V c A n x p) (o : Obj) : Pb w (V.alloc o) c A n x p := h.on ((Below.refl _ _).alloc (Nat.le_refl _) o)
theorem one_at {w V : World} {b : Nat} {v : Value} {T : TypeId} (h : w.heap[b]? = some (.cells #[v] T (0, 0))) (hb : Below w.heap.size w V) : One V b v T := (hb.block b (lt_of_cells h)).trans h
theorem chm_eqN (c : Cr) (x : At) : chgN c x (if ownsB c x then (0 : Int) else 601) = chmN c x := rfl
theorem chm_eqA (c : Cr) (x : At) (k m : Nat) : chgA c x (if ownsB c x then (0 : Int) else 601) (chmX c x k m) = chmA c x k m := by
  unfold chgA chmA
  cases ownsB c x <;> rfl
set_option maxRecDepth 100000 in
set_option maxHeartbeats 4000000 in
theorem chmodo_calls (c : Cr) (A : Option Addr) (n : Nat) (x : At) (p : ALie) (k m : Nat) (w : World) (hc : CLies w c A) (h : ALies w x p) (hs : ASm x) (hm6 : m < 65536) :
    Calls Try.prog 11 #[c.v A n, x.v p, .int .u8 (k : Nat), .int .u16 (m : Nat)] w fun e w' => ∃ q, e = .returned (.tuple #[At.v (chmA c x k m) q, .int .i64 (chmN c x)]) ∧ AOw w' (chmA c x k m) q ∧ Below w.heap.size w w' := by
  have hmf : ∀ (fn : Fn) (first cap : Array Value) (w : World), (Instr.makeFunc fn first cap).run Try.prog w = .ok (.func fn first cap) w := fun _ _ _ _ => rfl
  obtain ⟨V, hV⟩ : ∃ V, V = ((((w.alloc (.cells (c.c A n) 25)).alloc (.cells (x.c p) 31)).alloc (.cells #[.int .u8 (k : Nat)] 5)).alloc (.cells #[.int .u16 (m : Nat)] 22)).alloc (.cells zAt 31) := ⟨_, rfl⟩
  have S0 : Hid (Pb w V c A n x p) := Lib.hid (by rw [hV]; exact ((((Pb.start hc h).one _).one _).one _))
  have HZ : Hid (V.heap[w.heap.size + 4]? = some (.cells zAt 31 (0, 0))) := Lib.hid (by
    rw [hV]
    have := heap_alloc_new ((((w.alloc (.cells (c.c A n) 25)).alloc (.cells (x.c p) 31)).alloc (.cells #[.int .u8 (k : Nat)] 5)).alloc (.cells #[.int .u16 (m : Nat)] 22)) (.cells zAt 31)
    simpa only [World.size_alloc, Nat.add_assoc] using this)
  have HCH : Hid (Calls Try.prog 35 #[c.v A n, x.v p, .func (.func 36) #[] #[.pointer (some ⟨w.heap.size, 0, none⟩), .pointer (some ⟨w.heap.size + 3, 0, none⟩), .pointer (some ⟨w.heap.size + 2, 0, none⟩)]] V fun e w' => ∃ q, e = .returned (.tuple #[At.v (chmA c x k m) q, .int .i64 (chmN c x)]) ∧ AOw w' (chmA c x k m) q ∧ Below V.heap.size V w') := Lib.hid (by
    have hk2 : V.heap[w.heap.size + 2]? = some (.cells #[.int .u8 (k : Nat)] 5 (0, 0)) := by
      rw [hV]
      rw [heap_alloc_old _ _ (by simp only [World.size_alloc]; omega), heap_alloc_old _ _ (by simp only [World.size_alloc]; omega)]
      have := heap_alloc_new ((w.alloc (.cells (c.c A n) 25)).alloc (.cells (x.c p) 31)) (.cells #[.int .u8 (k : Nat)] 5)
      simpa only [World.size_alloc, Nat.add_assoc] using this
    have hm2 : V.heap[w.heap.size + 3]? = some (.cells #[.int .u16 (m : Nat)] 22 (0, 0)) := by
      rw [hV]
      rw [heap_alloc_old _ _ (by simp only [World.size_alloc]; omega)]
      have := heap_alloc_new (((w.alloc (.cells (c.c A n) 25)).alloc (.cells (x.c p) 31)).alloc (.cells #[.int .u8 (k : Nat)] 5)) (.cells #[.int .u16 (m : Nat)] 22)
      simpa only [World.size_alloc, Nat.add_assoc] using this
    have hh := changed_calls c A n x p 36 #[.pointer (some ⟨w.heap.size, 0, none⟩), .pointer (some ⟨w.heap.size + 3, 0, none⟩), .pointer (some ⟨w.heap.size + 2, 0, none⟩)] (chmX c x k m) (if ownsB c x then (0 : Int) else 601) V S0.out.cl S0.out.al hs
      (fun args W => run_enter Try.func36 rfl rfl args W)
      (fun hv q W how hbW => chmod1_calls c A n x q w.heap.size (w.heap.size + 3) (w.heap.size + 2) k m W hv how (S0.out.cb.on hbW) (S0.out.cl.below hbW) (one_at hm2 hbW) (one_at hk2 hbW) hm6)
    rw [chm_eqN, chm_eqA] at hh
    exact hh)
  obtain ⟨X, hX⟩ : ∃ X, chmA c x k m = X := ⟨_, rfl⟩
  obtain ⟨N, hN⟩ : ∃ N, chmN c x = N := ⟨_, rfl⟩
  rw [hX, hN] at HCH ⊢
  clear hc h hs hX hN
  go_enter Try.func11, Try.ntmps11
  go_upto_region 1 with (fail)
  rw [← hV]
  clear hV
  go_wp2_with (first
  | (refine wpList_load_part rfl 25 (.tmp 4) rfl w.heap.size 0 rfl (Cr.c c A n).toList _ (S0.out.cb).all Try.underlying25 rfl cred_size (Cr.v c A n) rfl ?_)
  | (refine wpList_load_part rfl 31 (.tmp 5) rfl (w.heap.size + 1) 0 rfl (At.c x p).toList _ (S0.out.bt).bt0 Try.underlying31 rfl attr_size (At.v x p) rfl ?_))
  refine HCH.out.mono ?_
  rintro e w1 ⟨q, rfl, how, hb⟩
  have S1 := Lib.hid (S0.out.on hb)
  have HZ1 : Hid (w1.heap[w.heap.size + 4]? = some (.cells zAt 31 (0, 0))) := Lib.hid ((hb.block _ (lt_of_cells HZ.out)).trans HZ.out)
  clear hb S0 HZ HCH hmf
  obtain ⟨C, hC⟩ : ∃ C, C = At.c X q := ⟨_, rfl⟩
  have hone : C.all (·.oneCell') = true := by rw [hC]; exact c_one _ _
  have hsz : (Try.prog.info? 31).map (·.size) = some C.size := by rw [hC]; exact c_size _ _
  have hold : (zAt : Array Value).size = C.size := by rw [hC]; rfl
  obtain ⟨Z, hZ⟩ : ∃ Z, Z = World.setRow w1 (w.heap.size + 4) C := ⟨_, rfl⟩
  have HR : Hid (Z.heap[w.heap.size + 4]? = some (.cells C 31 (0, 0))) := Lib.hid (by rw [hZ]; exact setRow_heap _ _ _ _ _ _ HZ1.out)
  have HO := Lib.hid (how.turn HZ1.out C)
  have HB : Hid (Below w.heap.size w Z) := Lib.hid (by rw [hZ]; exact below_setRow S1.out.be (by omega) _)
  rw [← hZ] at HO
  have HC := Lib.hid hC
  rw [show At.v X q = .agg C by rw [hC]]
  clear hC how
  go_wp2_with (refine wpList_store_rowTo rfl 31 (.tmp 8) (.tmp 14) rfl rfl (w.heap.size + 4) C rfl rfl 31 _ HZ1.out hsz hold hone ?_; rw [← hZ])
  exact bodyPost_ret (results_row_tmp rfl _ _ (w.heap.size + 4) 31 C (0, 0) _ (.int .i64 N) rfl HR.out rfl Try.underlying31 rfl hsz) rfl ⟨q, by rw [HC.out], HO.out, HB.out⟩
end Go.Proofs.Ytdioafoikcfhhaa
