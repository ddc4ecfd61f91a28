/- The program's Chmod. -/
import Derived.Test.YtdioafoikcfhhaaOg
set_option linter.unusedSimpArgs false
set_option linter.unusedVariables false
set_option linter.unusedSimpArgs false
set_option linter.unusedVariables false
namespace Go.Proofs.Ytdioafoikcfhhaa
open Go.RowKit
/-- What is stored in one block of one cell. -/
def One (w : World) (b : Nat) (v : Value) (T : TypeId) : Prop := w.heap[b]? = some (.cells #[v] T (0, 0))
theorem One.on {w w' : World} {b : Nat} {v : Value} {T : TypeId} (h : One w b v T) (hb : Below w.heap.size w w') : One w' b v T := (hb.block b (lt_of_cells h)).trans h
theorem One.cell {w : World} {b : Nat} {v : Value} {T : TypeId} (h : One w b v T) : w.cell? ⟨b, 0, none⟩ = some v := cell_of_row w _ 0 _ T (0, 0) h
theorem and7b (m : Nat) (hm : m < 65536) : bits .and .u8 ((m : Int) / 512 % 256) 7 = ((m / 512 % 8 : Nat) : Int) := by
  have e0 : ((m / 512 % 256 : Nat) : Int) = (m : Int) / 512 % 256 := by omega
  rw [← e0, and7 _ (by omega)]
  congr 1
  omega
set_option maxRecDepth 100000 in
set_option maxHeartbeats 4000000 in
theorem chmod1_calls (c : Cr) (A : Option Addr) (n : Nat) (x : At) (p : ALie) (bc bm bk k m : Nat) (w : World) (hv : validB c x = true) (h : AOw w x p) (hcb : Cb w bc c A n) (hcl : CLies w c A)
    (hm : One w bm (.int .u16 (m : Nat)) 22) (hk : One w bk (.int .u8 (k : Nat)) 5) (hm6 : m < 65536) :
    Calls Try.prog 36 #[x.v p, .pointer (some ⟨bc, 0, none⟩), .pointer (some ⟨bm, 0, none⟩), .pointer (some ⟨bk, 0, none⟩)] w fun e w' => Ends w (if ownsB c x then (0 : Int) else 601) (chmX c x k m) e w' := by
  obtain ⟨V, hV⟩ : ∃ V, V = (w.alloc (.cells (x.c p) 31)).alloc (.cells zAt 31) := ⟨_, rfl⟩
  have S0 : Hid (Wk w V w.heap.size x p (w.heap.size + 1) zAt) := Lib.hid (by rw [hV]; exact Wk.start w h)
  have HM := Lib.hid (valid_parts hv).2
  have HCB := Lib.hid hcb
  have HCL := Lib.hid hcl
  have HMO := Lib.hid hm
  have HKO := Lib.hid hk
  obtain ⟨mm, hmm⟩ : ∃ mm, (if ownsB c x then (0 : Int) else 601) = mm := ⟨_, rfl⟩
  rw [hmm]
  have HMM := Lib.hid hmm
  clear h hv hcb hcl hm hk hmm
  go_enter Try.func36, Try.ntmps36
  go_upto_region 1 with (fail)
  rw [← hV]
  clear hV
  go_wp2_with (first
  | (refine wpList_load_part rfl 25 (.tmp 1) rfl bc 0 rfl (Cr.c c A n).toList _ (HCB.out.on S0.out.be).all Try.underlying25 rfl cred_size (Cr.v c A n) rfl ?_)
  | (refine wpList_load_part rfl 31 (.tmp 4) rfl w.heap.size 0 rfl (At.c x p).toList _ (S0.out.bt).bt0 Try.underlying31 rfl attr_size (At.v x p) rfl ?_))
  refine (owns_calls c A n x p V).mono ?_
  rintro e w1 ⟨rfl, hb⟩
  have S1 := Lib.hid (S0.out.on hb)
  clear hb S0
  cases hw : ownsB c x
  case false =>
    have HN : Hid (mm = 601) := Lib.hid (by rw [← HMM.out, hw]; rfl)
    clear hw HMM
    go_wp2_with (fail)
    refine (need_no 601 w1).mono ?_
    rintro e w2 ⟨rfl, rfl⟩
    go_wp2_with (fail)
    exact ⟨rfl, S1.out.be, .inr ⟨by rw [HN.out]; decide, by rw [HN.out]⟩⟩
  case true =>
    have HN : Hid (mm = 0) := Lib.hid (by rw [← HMM.out, hw]; rfl)
    clear hw HMM
    go_wp2_with (fail)
    refine (need_ok 601 w1).mono ?_
    rintro e w2 ⟨rfl, rfl⟩
    obtain ⟨b1, hb1⟩ : ∃ b, m / 512 % 8 = b := ⟨_, rfl⟩
    have e7 : (m : Int) / 512 % 8 = (b1 : Int) := by omega
    have e8 : bits .and .u8 ((m : Int) / 512 % 256) 7 = (b1 : Int) := by rw [and7b m hm6, hb1]
    have e9 : bits .and .u8 ((m : Int) / 512) 7 = (b1 : Int) := by
      have e0 : (m : Int) / 512 % 256 = (m : Int) / 512 := by omega
      rw [e0] at e8
      exact e8
    have hl8 : b1 < 8 := by omega
    have HB1 := Lib.hid hb1
    clear hb1
    have ym := (HMO.out.on S1.out.be).cell
    obtain ⟨U1, hU1⟩ : ∃ Zz, Zz = World.setRow w2 w.heap.size (At.c (withBi x b1) p) := ⟨_, rfl⟩
    have S2 := Lib.hid (S1.out.put (S1.out.ow.bi b1))
    rw [← hU1] at S2
    go_upto_region 3 with (refine wpList_store_part rfl 5 (.tmp 14) (.tmp 13) rfl rfl w.heap.size 0 [.int .u8 ((b1 : Nat) : Int)] rfl rfl 31 _ S1.out.bt u8_size (Nat.le_of_ble_eq_true rfl) (one_of rfl) (At.c (withBi x b1) p) rfl ?_; rw [← hU1])
    clear hU1 S1 ym e7 e8 e9
    have ym := (HMO.out.on S2.out.be).cell
    go_wp2_with (refine wpList_load_part rfl 28 (.tmp 15) rfl w.heap.size 3 rfl (Ac.c (withBi x b1).ac p.p).toList _ (S2.out.bt.ac) Try.underlying28 rfl acl_size (Ac.v (withBi x b1).ac p.p) rfl ?_)
    refine (chmod_calls (withBi x b1).ac p.p m U1 S2.out.ow.ac.lies (asm_of HM.out).ac hm6).mono ?_
    rintro e w3 ⟨q, rfl, hC, hb⟩
    have S3 := Lib.hid (S2.out.on hb)
    have HL := Lib.hid (LiesO.of hC)
    clear hb hC S2 ym
    obtain ⟨l, hl⟩ : ∃ l, chA (withBi x b1).ac m = l := ⟨_, rfl⟩
    rw [hl] at HL ⊢
    have HLL := Lib.hid hl
    clear hl
    obtain ⟨U3, hU3⟩ : ∃ Zz, Zz = World.setRow w3 w.heap.size (At.c (withAc (withBi x b1) l) ⟨q, p.q, p.X, p.n⟩) := ⟨_, rfl⟩
    have S4 := Lib.hid (S3.out.put (S3.out.ow.acc HL.out))
    rw [← hU3] at S4
    go_upto_region 4 with (refine wpList_store_part rfl 28 (.tmp 19) (.tmp 18) rfl rfl w.heap.size 3 (Ac.c l q).toList rfl rfl 31 _ S3.out.bt acl_size (Nat.le_of_ble_eq_true rfl) (acl_one _ _) (At.c (withAc (withBi x b1) l) ⟨q, p.q, p.X, p.n⟩) rfl ?_; rw [← hU3])
    clear hU3 S3 HL
    have HY : Hid (chmX c x k m = lostA c (withAc (withBi x b1) l) k) := Lib.hid (by rw [← HLL.out, ← HB1.out]; rfl)
    have HYB : Hid ((withAc (withBi x b1) l).bi < 256) := Lib.hid (by show b1 < 256; omega)
    generalize withAc (withBi x b1) l = y at *
    obtain ⟨p2, hp2⟩ : ∃ p2 : ALie, ⟨q, p.q, p.X, p.n⟩ = p2 := ⟨_, rfl⟩
    rw [hp2] at S4
    clear hp2
    have yk := (HKO.out.on S4.out.be).cell
    go_wp2_with (first
  | (refine wpList_load_part rfl 25 (.tmp 1) rfl bc 0 rfl (Cr.c c A n).toList _ (HCB.out.on S4.out.be).all Try.underlying25 rfl cred_size (Cr.v c A n) rfl ?_)
  | (refine wpList_load_part rfl 31 (.tmp 4) rfl w.heap.size 0 rfl (At.c y p2).toList _ (S4.out.bt).bt0 Try.underlying31 rfl attr_size (At.v y p2) rfl ?_))
    refine (sgid_calls c A n y p2 k U3 (HCL.out.below S4.out.be) S4.out.ow HYB.out).mono ?_
    rintro e w5 ⟨rfl, how, hb⟩
    have S5 := Lib.hid (S4.out.on hb)
    have HO := Lib.hid how
    clear hb how S4 yk
    obtain ⟨C, hC⟩ : ∃ C, C = At.c (lostA c y k) p2 := ⟨_, rfl⟩
    have hone : C.all (·.oneCell') = true := by rw [hC]; exact c_one _ _
    have hsz : (Try.prog.info? 31).map (·.size) = some C.size := by rw [hC]; exact c_size _ _
    have hold : (zAt : Array Value).size = C.size := by rw [hC]; rfl
    obtain ⟨Z, hZ⟩ : ∃ Z, Z = World.setRow w5 (w.heap.size + 1) C := ⟨_, rfl⟩
    have HR := Lib.hid (S5.out.res C)
    have HOR := Lib.hid ((HO.out).turn S5.out.rb C)
    rw [← hZ] at HR HOR
    have HC := Lib.hid hC
    have HZZ := Lib.hid hZ
    rw [show At.v (lostA c y k) p2 = .agg C by rw [hC]]
    clear hC hZ
    go_wp2_with (refine wpList_store_rowTo rfl 31 (.tmp 5) (.tmp 23) rfl rfl (w.heap.size + 1) C rfl rfl 31 _ S5.out.rb hsz hold hone ?_; rw [← HZZ.out])
    exact bodyPost_ret (results_cell_row rfl _ _ (w.heap.size + 1) 31 _ (0, 0) _ rfl HR.out.rb Try.underlying31 rfl hsz) rfl ⟨HR.out.be, .inl ⟨HN.out, p2, by rw [HC.out, HY.out], by rw [HY.out]; exact HOR.out⟩⟩
end Go.Proofs.Ytdioafoikcfhhaa
