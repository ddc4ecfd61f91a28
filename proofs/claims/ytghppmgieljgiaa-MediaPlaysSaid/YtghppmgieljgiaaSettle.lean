/- settle: those stores that stay tells of are made persistent, the others wait on. -/
import Derived.Test.YtghppmgieljgiaaSettle0
namespace Go.Proofs.Ytghppmgieljgiaa
open Go.RowKit
theorem pend_info : (Try.prog.info? 61).map (fun i => (i.zero, i.size, i.bytes)) = some (some (.agg #[.int .i64 0, .int .u64 0, .bool false]), 3, 24) := by kernel_rfl
theorem settle_calls {w : World} {g gk ck gs cs cp : Nat} {A : Option Addr} {K S : List Nat} {L : List Pn} {F : Nat → Prop} (h : DevC w g gk ck gs cs A cp K S L) (st : Nat → Pn → Bool) (fn : FuncId) (cap : Array Value)
    (hen : ∀ (args : Array Value) (W : World), (callFunc fn args).run Try.prog W = .ok (.enter fn args) W)
    (hst : ∀ (k : Nat) (p : Pn) (W : World), Only F w W → Calls Try.prog fn (#[.int .i64 (k : Nat), pval p] ++ cap) W fun e W' => e = .returned (.bool (st k p)) ∧ Below W.heap.size W W')
    (hpos : ∀ p ∈ L, p.pos < K.length) (hL : L.length ≤ 9223372036854775807) (_ : K.length ≤ 9223372036854775807) (fg : F g) (fk : F gk) (fp : ∀ ad, A = some ad → F ad.block) :
    Calls Try.prog 34 #[.pointer (some ⟨g, 0, none⟩), .func (.func fn) #[] cap] w fun e w' => e = .returned (.tuple #[]) ∧
      DevC w' g gk ck gs cs A L.length (lay K (keeps st L)) S (leaves st L) ∧ Only F w w' := by
  have c2 := h.c2
  have pc := h.pc
  obtain ⟨i0, hi0, hz0, hs0, hb0⟩ := info_parts pend_info
  have HI := Lib.hid hi0
  have HS := Lib.hid hs0
  clear hi0 hz0 hs0 hb0
  go_enter Try.func34, Try.ntmps34
  go_wp2
  go_quiet (fail)
  go_wp2
  go_loopw [4, 22] (fun r i wr => ∃ k : Nat, i = .int .i64 k ∧ k ≤ L.length ∧ r = .slice A (leaves st (L.take k)).length L.length ∧ SetI w wr g gk ck gs cs A cp F K S L st k) (fun _ i _ => L.length - (intOf i).toNat)
  case atStart => exact ⟨0, rfl, Nat.zero_le _, rfl, SetI.start h _⟩
  case round =>
    obtain ⟨k, rfl, hk, rfl, hI⟩ := hrel
    by_cases hlt : k < L.length
    · obtain ⟨M, hPM, hM, hM1, hM2⟩ := hI.hp
      rcases hPM with ⟨_, h0⟩ | ⟨gp, cur, rfl, hgp, hcs, hcur⟩
      · omega
      · have hmk : M.getD k p0 = L.getD k p0 := drop_getD hM2 hlt
        obtain ⟨e0, e1, e2⟩ := pv_get M k (by omega)
        rw [hmk] at e0 e1 e2
        have HG := Lib.hid hgp
        have x0 := cell_of_row wr gp (k * 3) _ _ (0, 0) hgp
        have x1 := cell_of_row wr gp (k * 3 + 1) _ _ (0, 0) hgp
        have x2 := cell_of_row wr gp (k * 3 + 2) _ _ (0, 0) hgp
        have at_ : ∀ j u, j < L.length * 3 → (pv M)[j]? = some u → cur[j]? = some u := fun j u hj hu => by
          rw [← hcur, List.getElem?_take_of_lt hj, Array.getElem?_toList] at hu; exact hu
        rw [at_ _ _ (by omega) e0] at x0
        rw [at_ _ _ (by omega) e1] at x1
        rw [at_ _ _ (by omega) e2] at x2
        have hpk := hpos (L.getD k p0) (by rw [getD_of_lt _ _ _ hlt]; exact List.getElem_mem _)
        have hck := hI.hk.cell (L.getD k p0).pos (by rw [lay_length]; exact hpk)
        have hjk := leaves_take_length st L k
        have HL := Lib.hid hM
        have HM1 := Lib.hid hM1
        have HM2 := Lib.hid hM2
        have HC := Lib.hid hcur
        have c0 := cell_of_row wr g 0 _ _ (0, 0) hI.hg
        have hsz := hI.only.size
        have hgl := lt_of_cells hI.hg
        have hkl := hI.hk.lt
        have hfk := hI.hk.frozen (L.getD k p0).pos
        have hgpl := lt_of_cells hgp
        clear e0 e1 e2 hM2 hM1 hmk at_ hgp hcur hM
        cases hs : st k (L.getD k p0)
        · have HS' := Lib.hid hs
          generalize hp : L.getD k p0 = p at *
          have HP := Lib.hid hp
          clear hp
          generalize hj : (leaves st (L.take k)).length = j at *
          have HJ := Lib.hid hj
          clear hj
          go_wp2_with (fail)
          refine (hst k p _ (hI.only.alloc _)).mono ?_
          rintro e w1 ⟨rfl, hb1⟩
          rw [hs]
          clear hs
          obtain ⟨y0, y1, y2⟩ := three_cells (alloc_later hb1)
          have hb2 := below_alloc hb1
          have hgp1 := (hb2.block gp hgpl).trans HG.out
          have HG1 := Lib.hid hgp1
          clear hgp1
          go_wp2_with (at_builtin; refine wpList_append_in rfl (.tmp 40) (.tmp 42) 48 rfl 61 i0 Try.underlying48 HI.out HS.out gp j L.length cur M p ((Below.heap_alloc _ _ _ (by have := hb2.size; omega)).trans HG1.out) HL.out hcs HC.out (by omega) ⟨w1.heap.size, 0, none⟩ 1 rfl rfl (cells_one p 61 (heap_alloc_new _ _)) ?_; intro cur' w2 hg2 hcs2 hcur2 hgr2)
          have ho : Only (· = gp) wr w2 := ((Only.of_below _ hb2).alloc _).grown hgr2 fun b e => by injection e with e; exact .inl e.symm
          rw [← HJ.out, ← HP.out] at hcur2
          obtain ⟨hl, hI'⟩ := hI.leave h hlt (by rw [HP.out]; exact HS'.out) HL.out (by rw [HJ.out]; exact HM1.out) HM2.out hg2 hcs2 hcur2 ho (fp _ rfl)
          rw [HJ.out] at hl
          clear hcur2 hg2
          go_roundw
          case rel => exact ⟨k + 1, by go_num, by omega, by rw [hl], hI'⟩
          case measure => simp [intOf]; omega
        · have HS' := Lib.hid hs
          generalize hp : L.getD k p0 = p at *
          have HP := Lib.hid hp
          clear hp
          generalize hj : (leaves st (L.take k)).length = j at *
          have HJ := Lib.hid hj
          clear hj
          go_wp2_with (fail)
          refine (hst k p _ (hI.only.alloc _)).mono ?_
          rintro e w1 ⟨rfl, hb1⟩
          rw [hs]
          clear hs
          obtain ⟨y0, y1, y2⟩ := three_cells (alloc_later hb1)
          have hb2 := below_alloc hb1
          have z0 := (hb2.cell (p := ⟨g, 0, none⟩) hgl).trans c0
          have z1 := (hb2.cell (p := ⟨gk, p.pos, none⟩) hkl).trans hck
          have z2 := (hb2.frozen (p := ⟨gk, p.pos, none⟩) hkl).trans hfk
          clear c0 hck hfk
          go_wp2_with (fail)
          go_region
          go_wp2
          have hkk := Blkp.set (hI.hk.below hb2 hkl) p.pos p.word
          have ho : Only (· = gk) wr (w1.setCell ⟨gk, p.pos, none⟩ (.int .u64 (p.word : Nat))).drew := (Only.setCell (p := ⟨gk, p.pos, none⟩) (Only.of_below (· = gk) hb2) (.inl rfl) _).drew
          obtain ⟨hl, hI'⟩ := hI.stay (w2 := (w1.setCell ⟨gk, p.pos, none⟩ (.int .u64 (p.word : Nat))).drew) h hlt (by rw [HP.out]; exact HS'.out) (by rw [HP.out]; exact hkk) ho fk
          rw [HJ.out] at hl
          clear hkk
          go_roundw
          case rel => exact ⟨k + 1, by go_num, by omega, by rw [hl], hI'⟩
          case measure => simp [intOf]; omega
    · obtain rfl : k = L.length := by omega
      have hgl := lt_of_cells hI.hg
      have c2 := cell_of_row wr g 2 _ _ (0, 0) hI.hg
      have f2 := frozen_of_row wr g 2 _ _ hI.hg
      obtain ⟨r1, r2⟩ := hI.done h (by unfold maxLen; omega) fg
      have hl : (leaves st (L.take L.length)) = leaves st L := by rw [List.take_length]
      rw [hl]
      clear hl
      have R1 := Lib.hid r1
      have R2 := Lib.hid r2
      clear r1 r2
      go_wp2
      go_end0
      exact ⟨rfl, R1.out, R2.out⟩
end Go.Proofs.Ytghppmgieljgiaa
