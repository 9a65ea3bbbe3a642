/-
  drain.streamsOf, where the raster is right.
-/
import Derived.Test.YtlhligeicnejbaaDoorQDsN
import Derived.Test.YtlhligeicnejbaaDoorQGaF
import Derived.BigQuiet
import Derived.Deep.LoopGhost
namespace Go.Proofs.YtlhligeicnejbaaDoor
open Go.RowKit
attribute [local go_sem ↓] Go.wp_at_zero Go.wp_at_succ

theorem rs_at {W : World} {B : Nat} {L : List Int} (cap : Nat) (hc : L.length ≤ cap) (h : At W B (ir L)) : Rs W B 0 cap L := ⟨fun i hi => by rw [Nat.zero_add]; exact (h.get hi).1, h.lt, hc⟩
theorem Rs.put {W : World} {b o cap B : Nat} {l : List Int} (h : Rs W b o cap l) (hn : b ≠ B) (i : Nat) (u : Value) : Rs (W.setCell ⟨B, i, none⟩ u) b o cap l :=
  ⟨fun k hk => by rw [World.cell?_setCell_far _ _ _ _ (show B ≠ b from Ne.symm hn)]; exact h.row k hk, by simpa using h.lt, h.cap⟩
theorem Rs.drew {W : World} {b o cap : Nat} {l : List Int} (h : Rs W b o cap l) : Rs W.drew b o cap l := ⟨h.row, h.lt, h.cap⟩
/-- What lies in memory while the streams are looked for. -/
structure SL (w W : World) (T Z R OUT F FL IS IN ob ocap : Nat) (rs zs fs : List Value) (Fl ol G : List Int) (Bs : List Bool) (Is : List Int) : Prop where
  t : At W T rs
  z : At W Z zs
  r : Has W R 3
  u : At W OUT (ir G)
  nf : NF W F FL fs Fl
  o : Rs W ob 0 ocap ol
  s : At W IS (br Bs)
  i : At W IN (ir Is)
  gr : Gr w W
  n1 : (T ≠ IS ∧ Z ≠ IS ∧ OUT ≠ IS ∧ F ≠ IS ∧ FL ≠ IS ∧ ob ≠ IS) ∧ (T ≠ IN ∧ Z ≠ IN ∧ OUT ≠ IN ∧ F ≠ IN ∧ FL ≠ IN ∧ ob ≠ IN) ∧ IS ≠ IN ∧ w.heap.size ≤ IS ∧ w.heap.size ≤ IN
  n2 : (F ≠ R ∧ FL ≠ R ∧ ob ≠ R ∧ IS ≠ R ∧ IN ≠ R) ∧ w.heap.size ≤ R
section
variable {w W : World} {T Z R OUT F FL IS IN ob ocap : Nat} {rs zs fs : List Value} {Fl ol G : List Int} {Bs : List Bool} {Is : List Int}
theorem SL.below {W' : World} (h : SL w W T Z R OUT F FL IS IN ob ocap rs zs fs Fl ol G Bs Is) (hB : Below W.heap.size W W') : SL w W' T Z R OUT F FL IS IN ob ocap rs zs fs Fl ol G Bs Is :=
  ⟨At.below hB h.t, At.below hB h.z, Has.below hB h.r, At.below hB h.u, h.nf.below hB, h.o.below hB, At.below hB h.s, At.below hB h.i, Gr.step h.gr hB, h.n1, h.n2⟩
theorem SL.drew (h : SL w W T Z R OUT F FL IS IN ob ocap rs zs fs Fl ol G Bs Is) : SL w W.drew T Z R OUT F FL IS IN ob ocap rs zs fs Fl ol G Bs Is :=
  ⟨h.t, h.z, h.r, h.u, h.nf.drew, h.o.drew, h.s, h.i, h.gr.drew, h.n1, h.n2⟩
theorem SL.putS (h : SL w W T Z R OUT F FL IS IN ob ocap rs zs fs Fl ol G Bs Is) (k : Nat) (x : Bool) : SL w (W.setCell ⟨IS, k, none⟩ (.bool x)) T Z R OUT F FL IS IN ob ocap rs zs fs Fl ol G (Bs.set k x) Is := by
  obtain ⟨⟨a1, a2, a3, a4, a5, a6⟩, -, b1, b2, b3⟩ := h.n1
  refine ⟨h.t.skip (Ne.symm a1) _ _, h.z.skip (Ne.symm a2) _ _, h.r.set _ _ _, h.u.skip (Ne.symm a3) _ _, ⟨h.nf.f.skip (Ne.symm a4) _ _, h.nf.fl.skip (Ne.symm a5) _ _⟩, h.o.put a6 _ _, ?_, h.i.skip b1 _ _, h.gr.set b2 _ _, h.n1, h.n2⟩
  rw [← br_set]; exact h.s.put k _
theorem SL.putI (h : SL w W T Z R OUT F FL IS IN ob ocap rs zs fs Fl ol G Bs Is) (k : Nat) (x : Int) : SL w (W.setCell ⟨IN, k, none⟩ (.int .i64 x)) T Z R OUT F FL IS IN ob ocap rs zs fs Fl ol G Bs (Is.set k x) := by
  obtain ⟨-, ⟨a1, a2, a3, a4, a5, a6⟩, b1, b2, b3⟩ := h.n1
  refine ⟨h.t.skip (Ne.symm a1) _ _, h.z.skip (Ne.symm a2) _ _, h.r.set _ _ _, h.u.skip (Ne.symm a3) _ _, ⟨h.nf.f.skip (Ne.symm a4) _ _, h.nf.fl.skip (Ne.symm a5) _ _⟩, h.o.put a6 _ _, h.s.skip (Ne.symm b1) _ _, ?_, h.gr.set b3 _ _, h.n1, h.n2⟩
  rw [← ir_set]; exact h.i.put k _
end
/-- The streams of a raster in memory. -/
structure SE (W : World) (m n Lb Lo Lcap : Nat) (l : List Int) (q : Int) (F FL IS IN LV ob ocap : Nat) (vq : Value) (Fl : List Int) : Prop where
  nf : NF W F FL (fsV m n Lb Lo Lcap l.length LV FL (.slice (some ⟨ob, 0, none⟩) l.length ocap) vq) Fl
  fe : FlE m n l Fl
  o : Rs W ob 0 ocap (on (flo m n l l.length).ord)
  s : At W IS (br (bF l.length (stB m n l q)))
  i : At W IN (ir (iF l.length (fun c => (inK m n l q l.length c : Int))))
theorem SE.below {W W' : World} {m n Lb Lo Lcap : Nat} {l : List Int} {q : Int} {F FL IS IN LV ob ocap : Nat} {vq : Value} {Fl : List Int} (h : SE W m n Lb Lo Lcap l q F FL IS IN LV ob ocap vq Fl) (hB : Below W.heap.size W W') : SE W' m n Lb Lo Lcap l q F FL IS IN LV ob ocap vq Fl :=
  ⟨h.nf.below hB, h.fe, h.o.below hB, At.below hB h.s, At.below hB h.i⟩
/-- .. by what hands them on. -/
def SX (W : World) (m n Lb Lo Lcap : Nat) (l : List Int) (q : Int) (F IS IN : Nat) : Prop := ∃ FL LV ob ocap vq Fl, SE W m n Lb Lo Lcap l q F FL IS IN LV ob ocap vq Fl
theorem ga_one {m n : Nat} {l : List Int} (ok : Ok l m n) : gaF m n l (List.replicate l.length 1) (List.range l.length) = iF l.length (gaV m n l (fun _ => 1)) := by
  have h1 : ∀ i, i < l.length → gl (List.replicate l.length 1) i = 1 := fun i hi => by simp [gl, hi]
  rw [gaF_gaL ok (by simp) (fun i hi => by rw [h1 i hi]; decide)]
  unfold gaL iF
  refine List.map_congr_left (fun c _ => ?_)
  unfold gaV
  exact smF_congr (fun i hi => by rw [h1 i hi])
theorem inK_up {m n : Nat} {l : List Int} {q : Int} {k : Nat} (h : stB m n l q k = false) (c : Nat) : inK m n l q (k + 1) c = inK m n l q k c := by
  rw [inK_succ, flB_no m n l q h]; simp
theorem inK_at {m n : Nat} {l : List Int} {q : Int} {k : Nat} (h : stB m n l q k = true) (c : Nat) : inK m n l q (k + 1) c = if c = tw m n l k ∧ tw m n l k ≠ k then inK m n l q k c + 1 else inK m n l q k c := by
  rw [inK_succ, flB_tw m n l q h]
  by_cases e : c = tw m n l k ∧ tw m n l k ≠ k
  · rw [if_pos e, if_pos (decide_eq_true e)]
  · rw [if_neg e, if_neg (by simpa using e)]; rfl
/-- As far as the first k were looked at. -/
def bsK (m n : Nat) (l : List Int) (q : Int) (k c : Nat) : Bool := decide (c < k) && stB m n l q c
theorem bsK_no {m n : Nat} {l : List Int} {q : Int} {k : Nat} (h : stB m n l q k = false) (c : Nat) : bsK m n l q (k + 1) c = bsK m n l q k c := by
  unfold bsK
  by_cases e : c = k
  · subst e; rw [h]; simp
  · by_cases e2 : c < k
    · simp [e2, show c < k + 1 by omega]
    · simp [e2, show ¬ c < k + 1 by omega]
theorem bsK_yes {m n : Nat} {l : List Int} {q : Int} {k : Nat} (h : stB m n l q k = true) (c : Nat) : bsK m n l q (k + 1) c = if c = k then true else bsK m n l q k c := by
  unfold bsK
  by_cases e : c = k
  · subst e; rw [h]; simp
  · rw [if_neg e]
    by_cases e2 : c < k
    · simp [e2, show c < k + 1 by omega]
    · simp [e2, show ¬ c < k + 1 by omega]
theorem FM.rebase {w w0 W : World} {base F LV FL N : Nat} {a b c : Value} {Lv Fl : List Int} {vo : Value} {ord : List Nat} {vq : Value} {q : List Wt} (hG : Gr w w0) (h : FM w0 W base F LV FL N a b c Lv Fl vo ord vq q) : FM w W base F LV FL N a b c Lv Fl vo ord vq q := by
  have hs := hG.out.size
  obtain ⟨⟨p1, p2, p3⟩, p4, p5, p6⟩ := h.b1
  exact ⟨Gr.step hG h.gr.out, h.f, h.lv, h.fl, h.ll, h.ro, h.rq, h.hp, ⟨⟨by omega, by omega, by omega⟩, p4, p5, by omega⟩, h.b2, h.dis⟩
theorem FM.skip {w W : World} {base F LV FL N : Nat} {a b c : Value} {Lv Fl : List Int} {vo : Value} {ord : List Nat} {vq : Value} {q : List Wt} {Z : Nat} (h : FM w W base F LV FL N a b c Lv Fl vo ord vq q) (hz : Z < base) (h1 : Z ≠ F) (h2 : Z ≠ LV) (h3 : Z ≠ FL) (hw : w.heap.size ≤ Z) (i : Nat) (u : Value) : FM w (W.setCell ⟨Z, i, none⟩ u) base F LV FL N a b c Lv Fl vo ord vq q :=
  ⟨h.gr.set hw _ _, h.f.skip h1 _ _, h.lv.skip h2 _ _, h.fl.skip h3 _ _, h.ll, own_set h.ro hz _ _, own_set h.rq hz _ _, h.hp, ⟨h.b1.1, h.b1.2.1, by simpa using h.b1.2.2.1, h.b1.2.2.2⟩, h.b2, h.dis⟩
theorem FM.skip3 {w Wc W : World} {base F LV FL N : Nat} {a b c : Value} {Lv Fl : List Int} {vo : Value} {ord : List Nat} {vq : Value} {q : List Wt} {Z : Nat} (h : FM w Wc base F LV FL N a b c Lv Fl vo ord vq q) (hG : Gr Wc W) (hz : Wc.heap.size ≤ Z) (u v x : Value) : FM w (((W.setCell ⟨Z, 0, none⟩ u).setCell ⟨Z, 1, none⟩ v).setCell ⟨Z, 2, none⟩ x) base F LV FL N a b c Lv Fl vo ord vq q :=
  h.below (((hG.set hz _ _).set hz _ _).set hz _ _).out
theorem Has.lt {W : World} {B k : Nat} (h : Has W B k) : B < W.heap.size := by obtain ⟨_, _, h2⟩ := h; exact h2.lt
/-- What the drawn region leaves. -/
structure S6 (w W : World) (T Z R F FL IS IN LV base ob ocap N : Nat) (rs : List Value) (a b c : Value) (Lv Fl : List Int) (vo : Value) (ord : List Nat) (vq : Value) (q : List Wt) (m : Nat) (l : List Int) (S : FS) : Prop where
  fm : FM w W base F LV FL N a b c Lv Fl vo ord vq q
  sy : Syn m l S Lv Fl q
  ev : vo = .slice (some ⟨ob, 0, none⟩) (on ord).length ocap
  o : Rs W ob 0 ocap (on ord)
  t : At W T rs
  z : At W Z [.pointer (some ⟨F, 0, none⟩), .slice (some ⟨IS, 0, none⟩) N N, .slice (some ⟨IN, 0, none⟩) N N]
  r : Has W R 3
  bs : At W IS (br (List.replicate N false))
  is : At W IN (ir (List.replicate N 0))
  n1 : Z ≠ F ∧ Z ≠ LV ∧ Z ≠ FL ∧ Z ≠ IS ∧ Z ≠ IN ∧ Z ≠ T ∧ Z ≠ R ∧ Z ≠ ob ∧ w.heap.size ≤ Z
  n2 : IS ≠ IN ∧ IS ≠ F ∧ IS ≠ FL ∧ IS ≠ ob ∧ IS ≠ T ∧ IN ≠ F ∧ IN ≠ FL ∧ IN ≠ ob ∧ IN ≠ T ∧ IS ≠ R ∧ IN ≠ R ∧ F ≠ R ∧ FL ≠ R ∧ ob ≠ R ∧ w.heap.size ≤ IS ∧ w.heap.size ≤ IN ∧ w.heap.size ≤ R
theorem S6.below {w W W' : World} {T Z R F FL IS IN LV base ob ocap N : Nat} {rs : List Value} {a b c : Value} {Lv Fl : List Int} {vo : Value} {ord : List Nat} {vq : Value} {q : List Wt} {m : Nat} {l : List Int} {S : FS} (h : S6 w W T Z R F FL IS IN LV base ob ocap N rs a b c Lv Fl vo ord vq q m l S) (hB : Below W.heap.size W W') : S6 w W' T Z R F FL IS IN LV base ob ocap N rs a b c Lv Fl vo ord vq q m l S :=
  ⟨h.fm.below hB, h.sy, h.ev, h.o.below hB, At.below hB h.t, At.below hB h.z, Has.below hB h.r, At.below hB h.bs, At.below hB h.is, h.n1, h.n2⟩
set_option maxRecDepth 4000 in
set_option maxHeartbeats 16000000 in
theorem streamsOf_ok (g : Nat → Addr) {m n Lb Lo Lcap : Nat} {l : List Int} (q : Int) (hq : 1 ≤ q) (w : World) (hR : Rs w Lb Lo Lcap l) (ok : Ok l m n) (hv : vcode m n l = 0) (hl : Lai w g) : Calls Tryd.prog 15 #[raV m n (.slice (some ⟨Lb, Lo, none⟩) l.length Lcap), .int .i64 q] w fun e w' => ∃ F IS IN, e = .returned (.tuple #[.agg #[.pointer (some ⟨F, 0, none⟩), .slice (some ⟨IS, 0, none⟩) l.length l.length, .slice (some ⟨IN, 0, none⟩) l.length l.length], .nilIface]) ∧ SX w' m n Lb Lo Lcap l q F IS IN ∧ Gr w w' := by
  have hlen := ok.len_le
  have hN1 : 1 ≤ l.length := by rw [ok.len]; exact Nat.mul_le_mul ok.m1 ok.n1
  have PX : Hid (PF w ((w.alloc (.cells #[.int .i64 (m : Int), .int .i64 (n : Int), .slice (some ⟨Lb, Lo, none⟩) l.length Lcap] 32)).alloc (.cells #[.pointer none, .slice none 0 0, .slice none 0 0] 49)) w.heap.size [.int .i64 (m : Int), .int .i64 (n : Int), .slice (some ⟨Lb, Lo, none⟩) l.length Lcap]) := ⟨(At.new3 _ _ _ _ _).alloc _, ((Gr.refl w).alloc _).alloc _⟩
  have HR3 : Hid (Has ((w.alloc (.cells #[.int .i64 (m : Int), .int .i64 (n : Int), .slice (some ⟨Lb, Lo, none⟩) l.length Lcap] 32)).alloc (.cells #[.pointer none, .slice none 0 0, .slice none 0 0] 49)) (w.heap.size + 1) 3) := Has.nx3 _ _ _ _ _
  have C1 := hidb (valid_lai g m n _ Lb Lo Lcap l _ (hR.below PX.out.gr.out).isl (by omega) (hl.below PX.out.gr.out))
  rw [hv, show evc g 0 = .nilIface from rfl] at C1
  have HF := hidb (fun W (hG : Gr w W) => flooded_any W (hR.below hG.out) ok)
  have HOk := hidb ok
  have HGa := hidb (fun (W : World) F base LV FL Lv Fl vo vq qq (h : FM w W base F LV FL l.length (.int .i64 (m : Int)) (.int .i64 (n : Int)) (.slice (some ⟨Lb, Lo, none⟩) l.length Lcap) Lv Fl vo (flo m n l l.length).ord vq qq) (hs : Syn m l (flo m n l l.length) Lv Fl qq) C (hC : At W C (ir (List.replicate l.length 1))) => gather_any (rcap := l.length) W ok h hs (rs_at l.length (by simp) hC) (by simp))
  rw [ga_one ok] at HGa
  have HNx := hidb (fun (W : World) F FL LV vo vq Fl (h : NF W F FL (fsV m n Lb Lo Lcap l.length LV FL vo vq) Fl) (hf : FlE m n l Fl) c (hc : c < l.length) => next_at c W ok h hf hc)
  have HTl : Hid (∀ c, c < l.length → tw m n l c < l.length) := fun c hc => tw_lt m n l ok.m1 ok.len hc
  have HRp := hidb (fun B W (hB : At W B [.int .i64 1]) => repeat_any B 1 l.length hN1 (by omega) W hB)
  obtain ⟨CB, hCB, mkB⟩ := made_runB l.length (by omega)
  obtain ⟨CI, hCI, mkI⟩ := made_run l.length (by omega)
  have HCS := hidb (show CB.toList = br (List.replicate l.length false) ∧ CI.toList = ir (List.replicate l.length 0) from ⟨hCB, hCI⟩)
  have HOl : Hid ((flo m n l l.length).ord.length = l.length ∧ 1 ≤ (flo m n l l.length).ord.length) := by
    have := ord_len m n l ok.m1 ok.len
    exact ⟨this, by show 1 ≤ (flE m n l).ord.length; omega⟩
  have HL := hidb (show 1 ≤ l.length ∧ l.length ≤ 16384 from ⟨hN1, hlen⟩)
  obtain ⟨N, hN⟩ : ∃ N, N = l.length := ⟨_, rfl⟩
  have HN := hidb hN
  have hq' : ¬ q < 1 := by omega
  rw [← hN] at PX HR3 C1 HF HRp HL mkB mkI HCS HOl HGa HNx HTl ⊢
  unfold raV at C1 HF ⊢
  clear hR ok hv hl hlen hN1 hCB hCI hN hq
  go_enter Tryd.func15, Tryd.ntmps15
  go_upto_region 1 with fail
  generalize (w.alloc (.cells #[.int .i64 (m : Int), .int .i64 (n : Int), .slice (some ⟨Lb, Lo, none⟩) N Lcap] 32)).alloc (.cells #[.pointer none, .slice none 0 0, .slice none 0 0] 49) = w1 at *
  obtain ⟨T, hT⟩ : ∃ z, z = w.heap.size := ⟨_, rfl⟩
  obtain ⟨R, hRR⟩ : ∃ z, z = w.heap.size + 1 := ⟨_, rfl⟩
  have HTR := hidb (show T = w.heap.size ∧ R = T + 1 from ⟨hT, by omega⟩)
  rw [← hRR] at HR3 ⊢
  rw [← hT] at PX ⊢
  clear hRR hT
  obtain ⟨q0, q1, q2⟩ := PX.out.a.c3
  go_wp2_with fail
  refine C1.out.mono ?_
  rintro e w2 ⟨rfl, hB⟩
  clear q0 q1 q2
  have HT := hidb (At.below hB.out PX.out.a)
  have HG := hidb (Gr.step PX.out.gr hB.out)
  replace HR3 := hidb (Has.below hB.out HR3.out)
  clear hB C1 PX
  go_upto_region 6 with fail
  go_cut [7] from 22 to 32 (fun s7 wx => ∃ Z F FL IS IN LV base ob ocap Lv Fl vo vq qq, s7 = .pointer (some ⟨Z, 0, none⟩) ∧ Hid (S6 w wx T Z R F FL IS IN LV base ob ocap N [.int .i64 (m : Int), .int .i64 (n : Int), .slice (some ⟨Lb, Lo, none⟩) N Lcap] (.int .i64 (m : Int)) (.int .i64 (n : Int)) (.slice (some ⟨Lb, Lo, none⟩) N Lcap) Lv Fl vo (flo m n l N).ord vq qq m l (flo m n l N)))
  case first =>
    refine wp_region_held_drew (S := (fun w' => At w' T [.int .i64 (m : Int), .int .i64 (n : Int), .slice (some ⟨Lb, Lo, none⟩) N Lcap])) (by kernel_rfl) ?_ (fun hHeld => ?_)
    · (try dsimp only); exact HT.out.drew
    replace HT := hidb HT.out.drew
    replace HR3 := hidb HR3.out.drew
    replace HG := hidb HG.out.drew
    have HS0 : Hid (R < w2.drew.heap.size) := HR3.out.lt
    generalize w2.drew = V0 at *
    refine wpAnyH_take (i := 0) (v := ?vg0x7) rfl (by kernel_rfl) (by kernel_rfl) (by kernel_rfl) (fun _ _ _ h => h) (Or.inl ⟨by kernel_rfl, ?hg0x7⟩) (by assumption) ?rg0x7
    case hg0x7 => (intro w hSw; (try dsimp only at hSw); obtain ⟨x0, x1, x2⟩ := hSw.c3; go_simp; try with_reducible rfl)
    (try simp only [Act.put, List.getElem_toArray, List.getElem_cons_zero, List.setIfInBounds_toArray, List.set_cons_zero, List.set_cons_succ])
    refine wpAnyH_take (i := 2) (v := ?vg2x10) rfl (by kernel_rfl) (by kernel_rfl) (by kernel_rfl) (fun _ _ _ h => h) (Or.inl ⟨by kernel_rfl, ?hg2x10⟩) (by assumption) ?rg2x10
    case hg2x10 => (intro w hSw; (try dsimp only at hSw); obtain ⟨x0, x1, x2⟩ := hSw.c3; go_simp; try with_reducible rfl)
    (try simp only [Act.put, List.getElem_toArray, List.getElem_cons_zero, List.getElem_cons_succ, List.setIfInBounds_toArray, List.set_cons_zero, List.set_cons_succ])
    refine wpAnyH_take (i := 3) (v := ?vg3x13) rfl (by kernel_rfl) (by kernel_rfl) (by kernel_rfl) (fun _ _ _ h => h) (Or.inl ⟨by kernel_rfl, ?hg3x13⟩) (by assumption) ?rg3x13
    case hg3x13 => (intro w hSw; (try dsimp only at hSw); obtain ⟨x0, x1, x2⟩ := hSw.c3; go_simp; try with_reducible rfl)
    (try simp only [Act.put, List.getElem_toArray, List.getElem_cons_zero, List.getElem_cons_succ, List.setIfInBounds_toArray, List.set_cons_zero, List.set_cons_succ])
    refine wpAnyH_take (i := 4) (v := ?vg4x16) rfl (by kernel_rfl) (by kernel_rfl) (by kernel_rfl) (fun _ _ _ h => h) (Or.inl ⟨by kernel_rfl, ?hg4x16⟩) (by assumption) ?rg4x16
    case hg4x16 => (intro w hSw; (try dsimp only at hSw); obtain ⟨x0, x1, x2⟩ := hSw.c3; go_simp; try with_reducible rfl)
    (try simp only [Act.put, List.getElem_toArray, List.getElem_cons_zero, List.getElem_cons_succ, List.setIfInBounds_toArray, List.set_cons_zero, List.set_cons_succ])
    refine wpAnyH_take (i := 6) (v := ?vg6x19) rfl (by kernel_rfl) (by kernel_rfl) (by kernel_rfl) (fun _ _ _ h => h) (Or.inl ⟨by kernel_rfl, ?hg6x19⟩) (by assumption) ?rg6x19
    case hg6x19 => (intro w hSw; (try dsimp only at hSw); obtain ⟨x0, x1, x2⟩ := hSw.c3; go_simp; try with_reducible rfl)
    (try simp only [Act.put, List.getElem_toArray, List.getElem_cons_zero, List.getElem_cons_succ, List.setIfInBounds_toArray, List.set_cons_zero, List.set_cons_succ])
    refine wpAnyH_take (i := 7) (v := ?vg7x22) rfl (by kernel_rfl) (by kernel_rfl) (by kernel_rfl) (fun _ _ _ h => h) (Or.inl ⟨by kernel_rfl, ?hg7x22⟩) (by assumption) ?rg7x22
    case hg7x22 => (intro w hSw; (try dsimp only at hSw); obtain ⟨x0, x1, x2⟩ := hSw.c3; go_simp; try with_reducible rfl)
    (try simp only [Act.put, List.getElem_toArray, List.getElem_cons_zero, List.getElem_cons_succ, List.setIfInBounds_toArray, List.set_cons_zero, List.set_cons_succ])
    refine wpAnyH_take (i := 8) (v := ?vg8x25) rfl (by kernel_rfl) (by kernel_rfl) (by kernel_rfl) (fun _ _ _ h => h) (Or.inl ⟨by kernel_rfl, ?hg8x25⟩) (by assumption) ?rg8x25
    case hg8x25 => (intro w hSw; (try dsimp only at hSw); obtain ⟨x0, x1, x2⟩ := hSw.c3; go_simp; try with_reducible rfl)
    (try simp only [Act.put, List.getElem_toArray, List.getElem_cons_zero, List.getElem_cons_succ, List.setIfInBounds_toArray, List.set_cons_zero, List.set_cons_succ])
    refine wpAnyH_ready (rs := [1, 5, 9, 11]) (by kernel_rfl) (by simp) ?_
    refine AllReadyH.cons rfl (fun K hK => ?_) (AllReadyH.cons rfl (fun K hK => ?_) (AllReadyH.cons rfl (fun K hK => ?_) (AllReadyH.cons rfl (fun K hK => ?_) AllReadyH.nil)))
    · skip
      go_simp
      go_wp2_with (go_at_call 28; refine (HF.out _ HG.out).mono ?_; rintro e V1 ⟨F, base, LV, FL, Lv, Fl, vo, vq, qq, rfl, hM, hS⟩)
      refine hK.out _ _ ?_ (fun hHeld => ?_)
      · (try dsimp only); exact At.below hM.gr.out HT.out
      clear hK K
      have hbl := hM.gr.out
      replace HT := hidb (At.below hbl HT.out)
      replace HR3 := hidb (Has.below hbl HR3.out)
      have HB := hidb (show (V0.heap.size ≤ F ∧ V0.heap.size ≤ LV ∧ V0.heap.size ≤ FL) ∧ (F < base ∧ LV < base ∧ FL < base) ∧ base ≤ V1.heap.size ∧ V0.heap.size ≤ base from hM.b1)
      obtain ⟨ob, ocap, hvo, hOr⟩ := own_rs2 hM.ro (by rw [List.length_map]; exact HOl.out.2)
      have HOb := hidb (show base ≤ ob ∧ ob < V1.heap.size from ⟨(hM.ro.lt ob (by rw [hvo]; rfl)).1, hOr.lt⟩)
      have HVo := hidb hvo
      have HOr := hidb hOr
      clear hvo hOr
      have HM := hidb (FM.rebase HG.out hM)
      have HS := hidb hS
      replace HG := hidb (Gr.step HG.out hbl)
      clear hM hS hbl
      have HWc := hidb (Gr.refl V1)
      have HMc := hidb HM.out
      refine wpAnyH_ready (rs := [5, 9, 11]) (by kernel_rfl) (by simp) ?_
      refine AllReadyH.cons rfl (fun K hK => ?_) (AllReadyH.cons rfl (fun K hK => ?_) (AllReadyH.cons rfl (fun K hK => ?_) AllReadyH.nil))
      · skip
        go_simp
        refine hK.out _ _ ?_ (fun hHeld => ?_)
        · (try dsimp only); exact HT.out.alloc _
        clear hK K
        have szV2 : Hid ((V1.alloc (.cells CB 4)).heap.size = V1.heap.size + 1) := by show _ = _; simp
        have AS := hidb (At.newArr V1 CB 4)
        obtain ⟨IS, hIS⟩ : ∃ z, z = V1.heap.size := ⟨_, rfl⟩
        rw [← hIS] at AS ⊢
        replace hIS := hidb hIS
        replace HT := hidb (HT.out.alloc (.cells CB 4))
        replace HR3 := hidb (HR3.out.alloc (.cells CB 4))
        replace HG := hidb (HG.out.alloc (.cells CB 4))
        replace HM := hidb (HM.out.alloc (.cells CB 4))
        replace HOr := hidb (HOr.out.below ((Gr.refl _).alloc (.cells CB 4)).out)
        replace HWc := hidb (HWc.out.alloc (.cells CB 4))
        generalize V1.alloc (.cells CB 4) = V2 at *
        refine wpAnyH_ready (rs := [9, 11]) (by kernel_rfl) (by simp) ?_
        refine AllReadyH.cons rfl (fun K hK => ?_) (AllReadyH.cons rfl (fun K hK => ?_) AllReadyH.nil)
        · skip
          go_simp
          refine hK.out _ _ ?_ (fun hHeld => ?_)
          · (try dsimp only); exact HT.out.alloc _
          clear hK K
          have szV3 : Hid ((V2.alloc (.cells CI 3)).heap.size = V2.heap.size + 1) := by show _ = _; simp
          have AN := hidb (At.newArr V2 CI 3)
          obtain ⟨IN, hIN⟩ : ∃ z, z = V2.heap.size := ⟨_, rfl⟩
          rw [← hIN] at AN ⊢
          replace hIN := hidb hIN
          replace HT := hidb (HT.out.alloc (.cells CI 3))
          replace HR3 := hidb (HR3.out.alloc (.cells CI 3))
          replace HG := hidb (HG.out.alloc (.cells CI 3))
          replace AS := hidb (AS.out.alloc (.cells CI 3))
          replace HM := hidb (HM.out.alloc (.cells CI 3))
          replace HOr := hidb (HOr.out.below ((Gr.refl _).alloc (.cells CI 3)).out)
          replace HWc := hidb (HWc.out.alloc (.cells CI 3))
          generalize V2.alloc (.cells CI 3) = V3 at *
          refine wpAnyH_take (i := 10) (v := ?vg10x90) rfl (by kernel_rfl) (by kernel_rfl) (by kernel_rfl) (fun _ _ _ h => h) (Or.inl ⟨by kernel_rfl, ?hg10x90⟩) (by assumption) ?rg10x90
          case hg10x90 => (intro w hSw; (try dsimp only at hSw); obtain ⟨x0, x1, x2⟩ := hSw.c3; go_simp; try with_reducible rfl)
          (try simp only [Act.put, List.getElem_toArray, List.getElem_cons_zero, List.getElem_cons_succ, List.setIfInBounds_toArray, List.set_cons_zero, List.set_cons_succ])
          refine wpAnyH_ready (rs := [11]) (by kernel_rfl) (by simp) ?_
          refine AllReadyH.cons rfl (fun K hK => ?_) AllReadyH.nil
          go_simp
          refine hK.out _ _ ?_ (fun hHeld => ?_)
          · (try dsimp only); exact HT.out.alloc _
          clear hK K
          have szV4 : Hid ((V3.alloc (.cells #[.pointer none, .slice none 0 0, .slice none 0 0] 49)).heap.size = V3.heap.size + 1) := by show _ = _; simp
          have AZ := hidb (At.new3 V3 (.pointer none) (.slice none 0 0) (.slice none 0 0) 49)
          obtain ⟨Z, hZ⟩ : ∃ z, z = V3.heap.size := ⟨_, rfl⟩
          rw [← hZ] at AZ ⊢
          replace hZ := hidb hZ
          replace HT := hidb (HT.out.alloc (.cells #[.pointer none, .slice none 0 0, .slice none 0 0] 49))
          replace HR3 := hidb (HR3.out.alloc (.cells #[.pointer none, .slice none 0 0, .slice none 0 0] 49))
          replace HG := hidb (HG.out.alloc (.cells #[.pointer none, .slice none 0 0, .slice none 0 0] 49))
          replace AS := hidb (AS.out.alloc (.cells #[.pointer none, .slice none 0 0, .slice none 0 0] 49))
          replace AN := hidb (AN.out.alloc (.cells #[.pointer none, .slice none 0 0, .slice none 0 0] 49))
          replace HM := hidb (HM.out.alloc (.cells #[.pointer none, .slice none 0 0, .slice none 0 0] 49))
          replace HOr := hidb (HOr.out.below ((Gr.refl _).alloc (.cells #[.pointer none, .slice none 0 0, .slice none 0 0] 49)).out)
          replace HWc := hidb (HWc.out.alloc (.cells #[.pointer none, .slice none 0 0, .slice none 0 0] 49))
          generalize V3.alloc (.cells #[.pointer none, .slice none 0 0, .slice none 0 0] 49) = V4 at *
          refine wpAnyH_ready (rs := [12]) (by kernel_rfl) (by simp) ?_
          refine AllReadyH.cons rfl (fun K hK => ?_) AllReadyH.nil
          have NZT : Hid (¬ Z = T) := by
            show ¬ _
            have n1 := hZ.out; have n2 := hIS.out; have n3 := hIN.out; have n4 := HTR.out; have n5 := HS0.out; have n6 := HB.out; have n7 := HOb.out
            (try have mV4 := szV4.out)
            (try have mV3 := szV3.out)
            (try have mV2 := szV2.out)
            (try have mV1 := szV1.out)
            omega
          obtain ⟨z0, z1, z2⟩ := AZ.out.c3
          obtain ⟨y0, y1, y2⟩ := AZ.out.f3
          go_simp
          refine hK.out _ _ ?_ (fun hHeld => ?_)
          · (try dsimp only); exact ((HT.out.skip NZT.out _ _).skip NZT.out _ _).skip NZT.out _ _
          clear hK K
          refine wpAnyH_done (by kernel_rfl) ?_ _
          go_wp2_with fail
          go_meet
          have n1 := hZ.out; have n2 := hIS.out; have n3 := hIN.out; have n4 := HTR.out; have n5 := HS0.out; have n6 := HB.out; have n7 := HOb.out
          (try have mV4 := szV4.out)
          (try have mV3 := szV3.out)
          (try have mV2 := szV2.out)
          (try have mV1 := szV1.out)
          (try have m1 := lAS.out)
          (try have m2 := lAN.out)
          (try have m3 := lAZ.out)
          have l1 := AS.out.lt; have l2 := AN.out.lt; have l3 := AZ.out.lt
          have hOr := HOr.out; have hvo := HVo.out
          have nZ : Z ≠ F ∧ Z ≠ LV ∧ Z ≠ FL ∧ Z ≠ IS ∧ Z ≠ IN ∧ Z ≠ T ∧ Z ≠ R ∧ Z ≠ ob ∧ w.heap.size ≤ Z := by refine ⟨?_, ?_, ?_, ?_, ?_, ?_, ?_, ?_, ?_⟩ <;> omega
          obtain ⟨k1, k2, k3, k4, k5, k6, k7, k8, k9⟩ := nZ
          have nI : IS ≠ IN ∧ IS ≠ F ∧ IS ≠ FL ∧ IS ≠ ob ∧ IS ≠ T ∧ IN ≠ F ∧ IN ≠ FL ∧ IN ≠ ob ∧ IN ≠ T ∧ IS ≠ R ∧ IN ≠ R ∧ F ≠ R ∧ FL ≠ R ∧ ob ≠ R ∧ w.heap.size ≤ IS ∧ w.heap.size ≤ IN ∧ w.heap.size ≤ R := by refine ⟨?_, ?_, ?_, ?_, ?_, ?_, ?_, ?_, ?_, ?_, ?_, ?_, ?_, ?_, ?_, ?_, ?_⟩ <;> omega
          have hM2 := HMc.out.skip3 (Z := Z) HWc.out (by omega) (.pointer (some ⟨F, 0, none⟩)) (.slice (some ⟨IS, 0, none⟩) N N) (.slice (some ⟨IN, 0, none⟩) N N)
          refine ⟨Z, F, FL, IS, IN, LV, base, ob, ocap, Lv, Fl, vo, vq, qq, rfl, hidb ⟨hM2, HS.out, hvo, ((hOr.put k8.symm _ _).put k8.symm _ _).put k8.symm _ _, ((HT.out.skip k6 _ _).skip k6 _ _).skip k6 _ _, At.fill3 (AZ.out.has rfl) _ _ _, ((HR3.out.set _ _ _).set _ _ _).set _ _ _, (by rw [← HCS.out.1]; exact ((AS.out.skip k4 _ _).skip k4 _ _).skip k4 _ _), (by rw [← HCS.out.2]; exact ((AN.out.skip k5 _ _).skip k5 _ _).skip k5 _ _), ⟨k1, k2, k3, k4, k5, k6, k7, k8, k9⟩, nI⟩⟩
        · skip
          go_simp
          refine hK.out _ _ ?_ (fun hHeld => ?_)
          · (try dsimp only); exact HT.out.alloc _
          clear hK K
          have szV5 : Hid ((V2.alloc (.cells #[.pointer none, .slice none 0 0, .slice none 0 0] 49)).heap.size = V2.heap.size + 1) := by show _ = _; simp
          have AZ := hidb (At.new3 V2 (.pointer none) (.slice none 0 0) (.slice none 0 0) 49)
          obtain ⟨Z, hZ⟩ : ∃ z, z = V2.heap.size := ⟨_, rfl⟩
          rw [← hZ] at AZ ⊢
          replace hZ := hidb hZ
          replace HT := hidb (HT.out.alloc (.cells #[.pointer none, .slice none 0 0, .slice none 0 0] 49))
          replace HR3 := hidb (HR3.out.alloc (.cells #[.pointer none, .slice none 0 0, .slice none 0 0] 49))
          replace HG := hidb (HG.out.alloc (.cells #[.pointer none, .slice none 0 0, .slice none 0 0] 49))
          replace AS := hidb (AS.out.alloc (.cells #[.pointer none, .slice none 0 0, .slice none 0 0] 49))
          replace HM := hidb (HM.out.alloc (.cells #[.pointer none, .slice none 0 0, .slice none 0 0] 49))
          replace HOr := hidb (HOr.out.below ((Gr.refl _).alloc (.cells #[.pointer none, .slice none 0 0, .slice none 0 0] 49)).out)
          replace HWc := hidb (HWc.out.alloc (.cells #[.pointer none, .slice none 0 0, .slice none 0 0] 49))
          generalize V2.alloc (.cells #[.pointer none, .slice none 0 0, .slice none 0 0] 49) = V5 at *
          refine wpAnyH_ready (rs := [9]) (by kernel_rfl) (by simp) ?_
          refine AllReadyH.cons rfl (fun K hK => ?_) AllReadyH.nil
          go_simp
          refine hK.out _ _ ?_ (fun hHeld => ?_)
          · (try dsimp only); exact HT.out.alloc _
          clear hK K
          have szV6 : Hid ((V5.alloc (.cells CI 3)).heap.size = V5.heap.size + 1) := by show _ = _; simp
          have AN := hidb (At.newArr V5 CI 3)
          obtain ⟨IN, hIN⟩ : ∃ z, z = V5.heap.size := ⟨_, rfl⟩
          rw [← hIN] at AN ⊢
          replace hIN := hidb hIN
          replace HT := hidb (HT.out.alloc (.cells CI 3))
          replace HR3 := hidb (HR3.out.alloc (.cells CI 3))
          replace HG := hidb (HG.out.alloc (.cells CI 3))
          replace AS := hidb (AS.out.alloc (.cells CI 3))
          replace AZ := hidb (AZ.out.alloc (.cells CI 3))
          replace HM := hidb (HM.out.alloc (.cells CI 3))
          replace HOr := hidb (HOr.out.below ((Gr.refl _).alloc (.cells CI 3)).out)
          replace HWc := hidb (HWc.out.alloc (.cells CI 3))
          generalize V5.alloc (.cells CI 3) = V6 at *
          refine wpAnyH_take (i := 10) (v := ?vg10x185) rfl (by kernel_rfl) (by kernel_rfl) (by kernel_rfl) (fun _ _ _ h => h) (Or.inl ⟨by kernel_rfl, ?hg10x185⟩) (by assumption) ?rg10x185
          case hg10x185 => (intro w hSw; (try dsimp only at hSw); obtain ⟨x0, x1, x2⟩ := hSw.c3; go_simp; try with_reducible rfl)
          (try simp only [Act.put, List.getElem_toArray, List.getElem_cons_zero, List.getElem_cons_succ, List.setIfInBounds_toArray, List.set_cons_zero, List.set_cons_succ])
          refine wpAnyH_ready (rs := [12]) (by kernel_rfl) (by simp) ?_
          refine AllReadyH.cons rfl (fun K hK => ?_) AllReadyH.nil
          have NZT : Hid (¬ Z = T) := by
            show ¬ _
            have n1 := hZ.out; have n2 := hIS.out; have n3 := hIN.out; have n4 := HTR.out; have n5 := HS0.out; have n6 := HB.out; have n7 := HOb.out
            (try have mV6 := szV6.out)
            (try have mV5 := szV5.out)
            (try have mV2 := szV2.out)
            (try have mV1 := szV1.out)
            omega
          obtain ⟨z0, z1, z2⟩ := AZ.out.c3
          obtain ⟨y0, y1, y2⟩ := AZ.out.f3
          go_simp
          refine hK.out _ _ ?_ (fun hHeld => ?_)
          · (try dsimp only); exact ((HT.out.skip NZT.out _ _).skip NZT.out _ _).skip NZT.out _ _
          clear hK K
          refine wpAnyH_done (by kernel_rfl) ?_ _
          go_wp2_with fail
          go_meet
          have n1 := hZ.out; have n2 := hIS.out; have n3 := hIN.out; have n4 := HTR.out; have n5 := HS0.out; have n6 := HB.out; have n7 := HOb.out
          (try have mV6 := szV6.out)
          (try have mV5 := szV5.out)
          (try have mV2 := szV2.out)
          (try have mV1 := szV1.out)
          (try have m1 := lAS.out)
          (try have m2 := lAN.out)
          (try have m3 := lAZ.out)
          have l1 := AS.out.lt; have l2 := AN.out.lt; have l3 := AZ.out.lt
          have hOr := HOr.out; have hvo := HVo.out
          have nZ : Z ≠ F ∧ Z ≠ LV ∧ Z ≠ FL ∧ Z ≠ IS ∧ Z ≠ IN ∧ Z ≠ T ∧ Z ≠ R ∧ Z ≠ ob ∧ w.heap.size ≤ Z := by refine ⟨?_, ?_, ?_, ?_, ?_, ?_, ?_, ?_, ?_⟩ <;> omega
          obtain ⟨k1, k2, k3, k4, k5, k6, k7, k8, k9⟩ := nZ
          have nI : IS ≠ IN ∧ IS ≠ F ∧ IS ≠ FL ∧ IS ≠ ob ∧ IS ≠ T ∧ IN ≠ F ∧ IN ≠ FL ∧ IN ≠ ob ∧ IN ≠ T ∧ IS ≠ R ∧ IN ≠ R ∧ F ≠ R ∧ FL ≠ R ∧ ob ≠ R ∧ w.heap.size ≤ IS ∧ w.heap.size ≤ IN ∧ w.heap.size ≤ R := by refine ⟨?_, ?_, ?_, ?_, ?_, ?_, ?_, ?_, ?_, ?_, ?_, ?_, ?_, ?_, ?_, ?_, ?_⟩ <;> omega
          have hM2 := HMc.out.skip3 (Z := Z) HWc.out (by omega) (.pointer (some ⟨F, 0, none⟩)) (.slice (some ⟨IS, 0, none⟩) N N) (.slice (some ⟨IN, 0, none⟩) N N)
          refine ⟨Z, F, FL, IS, IN, LV, base, ob, ocap, Lv, Fl, vo, vq, qq, rfl, hidb ⟨hM2, HS.out, hvo, ((hOr.put k8.symm _ _).put k8.symm _ _).put k8.symm _ _, ((HT.out.skip k6 _ _).skip k6 _ _).skip k6 _ _, At.fill3 (AZ.out.has rfl) _ _ _, ((HR3.out.set _ _ _).set _ _ _).set _ _ _, (by rw [← HCS.out.1]; exact ((AS.out.skip k4 _ _).skip k4 _ _).skip k4 _ _), (by rw [← HCS.out.2]; exact ((AN.out.skip k5 _ _).skip k5 _ _).skip k5 _ _), ⟨k1, k2, k3, k4, k5, k6, k7, k8, k9⟩, nI⟩⟩
      · skip
        go_simp
        refine hK.out _ _ ?_ (fun hHeld => ?_)
        · (try dsimp only); exact HT.out.alloc _
        clear hK K
        have szV7 : Hid ((V1.alloc (.cells CI 3)).heap.size = V1.heap.size + 1) := by show _ = _; simp
        have AN := hidb (At.newArr V1 CI 3)
        obtain ⟨IN, hIN⟩ : ∃ z, z = V1.heap.size := ⟨_, rfl⟩
        rw [← hIN] at AN ⊢
        replace hIN := hidb hIN
        replace HT := hidb (HT.out.alloc (.cells CI 3))
        replace HR3 := hidb (HR3.out.alloc (.cells CI 3))
        replace HG := hidb (HG.out.alloc (.cells CI 3))
        replace HM := hidb (HM.out.alloc (.cells CI 3))
        replace HOr := hidb (HOr.out.below ((Gr.refl _).alloc (.cells CI 3)).out)
        replace HWc := hidb (HWc.out.alloc (.cells CI 3))
        generalize V1.alloc (.cells CI 3) = V7 at *
        refine wpAnyH_ready (rs := [5, 11]) (by kernel_rfl) (by simp) ?_
        refine AllReadyH.cons rfl (fun K hK => ?_) (AllReadyH.cons rfl (fun K hK => ?_) AllReadyH.nil)
        · skip
          go_simp
          refine hK.out _ _ ?_ (fun hHeld => ?_)
          · (try dsimp only); exact HT.out.alloc _
          clear hK K
          have szV8 : Hid ((V7.alloc (.cells CB 4)).heap.size = V7.heap.size + 1) := by show _ = _; simp
          have AS := hidb (At.newArr V7 CB 4)
          obtain ⟨IS, hIS⟩ : ∃ z, z = V7.heap.size := ⟨_, rfl⟩
          rw [← hIS] at AS ⊢
          replace hIS := hidb hIS
          replace HT := hidb (HT.out.alloc (.cells CB 4))
          replace HR3 := hidb (HR3.out.alloc (.cells CB 4))
          replace HG := hidb (HG.out.alloc (.cells CB 4))
          replace AN := hidb (AN.out.alloc (.cells CB 4))
          replace HM := hidb (HM.out.alloc (.cells CB 4))
          replace HOr := hidb (HOr.out.below ((Gr.refl _).alloc (.cells CB 4)).out)
          replace HWc := hidb (HWc.out.alloc (.cells CB 4))
          generalize V7.alloc (.cells CB 4) = V8 at *
          refine wpAnyH_take (i := 10) (v := ?vg10x259) rfl (by kernel_rfl) (by kernel_rfl) (by kernel_rfl) (fun _ _ _ h => h) (Or.inl ⟨by kernel_rfl, ?hg10x259⟩) (by assumption) ?rg10x259
          case hg10x259 => (intro w hSw; (try dsimp only at hSw); obtain ⟨x0, x1, x2⟩ := hSw.c3; go_simp; try with_reducible rfl)
          (try simp only [Act.put, List.getElem_toArray, List.getElem_cons_zero, List.getElem_cons_succ, List.setIfInBounds_toArray, List.set_cons_zero, List.set_cons_succ])
          refine wpAnyH_ready (rs := [11]) (by kernel_rfl) (by simp) ?_
          refine AllReadyH.cons rfl (fun K hK => ?_) AllReadyH.nil
          go_simp
          refine hK.out _ _ ?_ (fun hHeld => ?_)
          · (try dsimp only); exact HT.out.alloc _
          clear hK K
          have szV9 : Hid ((V8.alloc (.cells #[.pointer none, .slice none 0 0, .slice none 0 0] 49)).heap.size = V8.heap.size + 1) := by show _ = _; simp
          have AZ := hidb (At.new3 V8 (.pointer none) (.slice none 0 0) (.slice none 0 0) 49)
          obtain ⟨Z, hZ⟩ : ∃ z, z = V8.heap.size := ⟨_, rfl⟩
          rw [← hZ] at AZ ⊢
          replace hZ := hidb hZ
          replace HT := hidb (HT.out.alloc (.cells #[.pointer none, .slice none 0 0, .slice none 0 0] 49))
          replace HR3 := hidb (HR3.out.alloc (.cells #[.pointer none, .slice none 0 0, .slice none 0 0] 49))
          replace HG := hidb (HG.out.alloc (.cells #[.pointer none, .slice none 0 0, .slice none 0 0] 49))
          replace AS := hidb (AS.out.alloc (.cells #[.pointer none, .slice none 0 0, .slice none 0 0] 49))
          replace AN := hidb (AN.out.alloc (.cells #[.pointer none, .slice none 0 0, .slice none 0 0] 49))
          replace HM := hidb (HM.out.alloc (.cells #[.pointer none, .slice none 0 0, .slice none 0 0] 49))
          replace HOr := hidb (HOr.out.below ((Gr.refl _).alloc (.cells #[.pointer none, .slice none 0 0, .slice none 0 0] 49)).out)
          replace HWc := hidb (HWc.out.alloc (.cells #[.pointer none, .slice none 0 0, .slice none 0 0] 49))
          generalize V8.alloc (.cells #[.pointer none, .slice none 0 0, .slice none 0 0] 49) = V9 at *
          refine wpAnyH_ready (rs := [12]) (by kernel_rfl) (by simp) ?_
          refine AllReadyH.cons rfl (fun K hK => ?_) AllReadyH.nil
          have NZT : Hid (¬ Z = T) := by
            show ¬ _
            have n1 := hZ.out; have n2 := hIS.out; have n3 := hIN.out; have n4 := HTR.out; have n5 := HS0.out; have n6 := HB.out; have n7 := HOb.out
            (try have mV9 := szV9.out)
            (try have mV8 := szV8.out)
            (try have mV7 := szV7.out)
            (try have mV1 := szV1.out)
            omega
          obtain ⟨z0, z1, z2⟩ := AZ.out.c3
          obtain ⟨y0, y1, y2⟩ := AZ.out.f3
          go_simp
          refine hK.out _ _ ?_ (fun hHeld => ?_)
          · (try dsimp only); exact ((HT.out.skip NZT.out _ _).skip NZT.out _ _).skip NZT.out _ _
          clear hK K
          refine wpAnyH_done (by kernel_rfl) ?_ _
          go_wp2_with fail
          go_meet
          have n1 := hZ.out; have n2 := hIS.out; have n3 := hIN.out; have n4 := HTR.out; have n5 := HS0.out; have n6 := HB.out; have n7 := HOb.out
          (try have mV9 := szV9.out)
          (try have mV8 := szV8.out)
          (try have mV7 := szV7.out)
          (try have mV1 := szV1.out)
          (try have m1 := lAS.out)
          (try have m2 := lAN.out)
          (try have m3 := lAZ.out)
          have l1 := AS.out.lt; have l2 := AN.out.lt; have l3 := AZ.out.lt
          have hOr := HOr.out; have hvo := HVo.out
          have nZ : Z ≠ F ∧ Z ≠ LV ∧ Z ≠ FL ∧ Z ≠ IS ∧ Z ≠ IN ∧ Z ≠ T ∧ Z ≠ R ∧ Z ≠ ob ∧ w.heap.size ≤ Z := by refine ⟨?_, ?_, ?_, ?_, ?_, ?_, ?_, ?_, ?_⟩ <;> omega
          obtain ⟨k1, k2, k3, k4, k5, k6, k7, k8, k9⟩ := nZ
          have nI : IS ≠ IN ∧ IS ≠ F ∧ IS ≠ FL ∧ IS ≠ ob ∧ IS ≠ T ∧ IN ≠ F ∧ IN ≠ FL ∧ IN ≠ ob ∧ IN ≠ T ∧ IS ≠ R ∧ IN ≠ R ∧ F ≠ R ∧ FL ≠ R ∧ ob ≠ R ∧ w.heap.size ≤ IS ∧ w.heap.size ≤ IN ∧ w.heap.size ≤ R := by refine ⟨?_, ?_, ?_, ?_, ?_, ?_, ?_, ?_, ?_, ?_, ?_, ?_, ?_, ?_, ?_, ?_, ?_⟩ <;> omega
          have hM2 := HMc.out.skip3 (Z := Z) HWc.out (by omega) (.pointer (some ⟨F, 0, none⟩)) (.slice (some ⟨IS, 0, none⟩) N N) (.slice (some ⟨IN, 0, none⟩) N N)
          refine ⟨Z, F, FL, IS, IN, LV, base, ob, ocap, Lv, Fl, vo, vq, qq, rfl, hidb ⟨hM2, HS.out, hvo, ((hOr.put k8.symm _ _).put k8.symm _ _).put k8.symm _ _, ((HT.out.skip k6 _ _).skip k6 _ _).skip k6 _ _, At.fill3 (AZ.out.has rfl) _ _ _, ((HR3.out.set _ _ _).set _ _ _).set _ _ _, (by rw [← HCS.out.1]; exact ((AS.out.skip k4 _ _).skip k4 _ _).skip k4 _ _), (by rw [← HCS.out.2]; exact ((AN.out.skip k5 _ _).skip k5 _ _).skip k5 _ _), ⟨k1, k2, k3, k4, k5, k6, k7, k8, k9⟩, nI⟩⟩
        · skip
          go_simp
          refine hK.out _ _ ?_ (fun hHeld => ?_)
          · (try dsimp only); exact HT.out.alloc _
          clear hK K
          have szV10 : Hid ((V7.alloc (.cells #[.pointer none, .slice none 0 0, .slice none 0 0] 49)).heap.size = V7.heap.size + 1) := by show _ = _; simp
          have AZ := hidb (At.new3 V7 (.pointer none) (.slice none 0 0) (.slice none 0 0) 49)
          obtain ⟨Z, hZ⟩ : ∃ z, z = V7.heap.size := ⟨_, rfl⟩
          rw [← hZ] at AZ ⊢
          replace hZ := hidb hZ
          replace HT := hidb (HT.out.alloc (.cells #[.pointer none, .slice none 0 0, .slice none 0 0] 49))
          replace HR3 := hidb (HR3.out.alloc (.cells #[.pointer none, .slice none 0 0, .slice none 0 0] 49))
          replace HG := hidb (HG.out.alloc (.cells #[.pointer none, .slice none 0 0, .slice none 0 0] 49))
          replace AN := hidb (AN.out.alloc (.cells #[.pointer none, .slice none 0 0, .slice none 0 0] 49))
          replace HM := hidb (HM.out.alloc (.cells #[.pointer none, .slice none 0 0, .slice none 0 0] 49))
          replace HOr := hidb (HOr.out.below ((Gr.refl _).alloc (.cells #[.pointer none, .slice none 0 0, .slice none 0 0] 49)).out)
          replace HWc := hidb (HWc.out.alloc (.cells #[.pointer none, .slice none 0 0, .slice none 0 0] 49))
          generalize V7.alloc (.cells #[.pointer none, .slice none 0 0, .slice none 0 0] 49) = V10 at *
          refine wpAnyH_ready (rs := [5]) (by kernel_rfl) (by simp) ?_
          refine AllReadyH.cons rfl (fun K hK => ?_) AllReadyH.nil
          go_simp
          refine hK.out _ _ ?_ (fun hHeld => ?_)
          · (try dsimp only); exact HT.out.alloc _
          clear hK K
          have szV11 : Hid ((V10.alloc (.cells CB 4)).heap.size = V10.heap.size + 1) := by show _ = _; simp
          have AS := hidb (At.newArr V10 CB 4)
          obtain ⟨IS, hIS⟩ : ∃ z, z = V10.heap.size := ⟨_, rfl⟩
          rw [← hIS] at AS ⊢
          replace hIS := hidb hIS
          replace HT := hidb (HT.out.alloc (.cells CB 4))
          replace HR3 := hidb (HR3.out.alloc (.cells CB 4))
          replace HG := hidb (HG.out.alloc (.cells CB 4))
          replace AN := hidb (AN.out.alloc (.cells CB 4))
          replace AZ := hidb (AZ.out.alloc (.cells CB 4))
          replace HM := hidb (HM.out.alloc (.cells CB 4))
          replace HOr := hidb (HOr.out.below ((Gr.refl _).alloc (.cells CB 4)).out)
          replace HWc := hidb (HWc.out.alloc (.cells CB 4))
          generalize V10.alloc (.cells CB 4) = V11 at *
          refine wpAnyH_take (i := 10) (v := ?vg10x354) rfl (by kernel_rfl) (by kernel_rfl) (by kernel_rfl) (fun _ _ _ h => h) (Or.inl ⟨by kernel_rfl, ?hg10x354⟩) (by assumption) ?rg10x354
          case hg10x354 => (intro w hSw; (try dsimp only at hSw); obtain ⟨x0, x1, x2⟩ := hSw.c3; go_simp; try with_reducible rfl)
          (try simp only [Act.put, List.getElem_toArray, List.getElem_cons_zero, List.getElem_cons_succ, List.setIfInBounds_toArray, List.set_cons_zero, List.set_cons_succ])
          refine wpAnyH_ready (rs := [12]) (by kernel_rfl) (by simp) ?_
          refine AllReadyH.cons rfl (fun K hK => ?_) AllReadyH.nil
          have NZT : Hid (¬ Z = T) := by
            show ¬ _
            have n1 := hZ.out; have n2 := hIS.out; have n3 := hIN.out; have n4 := HTR.out; have n5 := HS0.out; have n6 := HB.out; have n7 := HOb.out
            (try have mV11 := szV11.out)
            (try have mV10 := szV10.out)
            (try have mV7 := szV7.out)
            (try have mV1 := szV1.out)
            omega
          obtain ⟨z0, z1, z2⟩ := AZ.out.c3
          obtain ⟨y0, y1, y2⟩ := AZ.out.f3
          go_simp
          refine hK.out _ _ ?_ (fun hHeld => ?_)
          · (try dsimp only); exact ((HT.out.skip NZT.out _ _).skip NZT.out _ _).skip NZT.out _ _
          clear hK K
          refine wpAnyH_done (by kernel_rfl) ?_ _
          go_wp2_with fail
          go_meet
          have n1 := hZ.out; have n2 := hIS.out; have n3 := hIN.out; have n4 := HTR.out; have n5 := HS0.out; have n6 := HB.out; have n7 := HOb.out
          (try have mV11 := szV11.out)
          (try have mV10 := szV10.out)
          (try have mV7 := szV7.out)
          (try have mV1 := szV1.out)
          (try have m1 := lAS.out)
          (try have m2 := lAN.out)
          (try have m3 := lAZ.out)
          have l1 := AS.out.lt; have l2 := AN.out.lt; have l3 := AZ.out.lt
          have hOr := HOr.out; have hvo := HVo.out
          have nZ : Z ≠ F ∧ Z ≠ LV ∧ Z ≠ FL ∧ Z ≠ IS ∧ Z ≠ IN ∧ Z ≠ T ∧ Z ≠ R ∧ Z ≠ ob ∧ w.heap.size ≤ Z := by refine ⟨?_, ?_, ?_, ?_, ?_, ?_, ?_, ?_, ?_⟩ <;> omega
          obtain ⟨k1, k2, k3, k4, k5, k6, k7, k8, k9⟩ := nZ
          have nI : IS ≠ IN ∧ IS ≠ F ∧ IS ≠ FL ∧ IS ≠ ob ∧ IS ≠ T ∧ IN ≠ F ∧ IN ≠ FL ∧ IN ≠ ob ∧ IN ≠ T ∧ IS ≠ R ∧ IN ≠ R ∧ F ≠ R ∧ FL ≠ R ∧ ob ≠ R ∧ w.heap.size ≤ IS ∧ w.heap.size ≤ IN ∧ w.heap.size ≤ R := by refine ⟨?_, ?_, ?_, ?_, ?_, ?_, ?_, ?_, ?_, ?_, ?_, ?_, ?_, ?_, ?_, ?_, ?_⟩ <;> omega
          have hM2 := HMc.out.skip3 (Z := Z) HWc.out (by omega) (.pointer (some ⟨F, 0, none⟩)) (.slice (some ⟨IS, 0, none⟩) N N) (.slice (some ⟨IN, 0, none⟩) N N)
          refine ⟨Z, F, FL, IS, IN, LV, base, ob, ocap, Lv, Fl, vo, vq, qq, rfl, hidb ⟨hM2, HS.out, hvo, ((hOr.put k8.symm _ _).put k8.symm _ _).put k8.symm _ _, ((HT.out.skip k6 _ _).skip k6 _ _).skip k6 _ _, At.fill3 (AZ.out.has rfl) _ _ _, ((HR3.out.set _ _ _).set _ _ _).set _ _ _, (by rw [← HCS.out.1]; exact ((AS.out.skip k4 _ _).skip k4 _ _).skip k4 _ _), (by rw [← HCS.out.2]; exact ((AN.out.skip k5 _ _).skip k5 _ _).skip k5 _ _), ⟨k1, k2, k3, k4, k5, k6, k7, k8, k9⟩, nI⟩⟩
      · skip
        go_simp
        refine hK.out _ _ ?_ (fun hHeld => ?_)
        · (try dsimp only); exact HT.out.alloc _
        clear hK K
        have szV12 : Hid ((V1.alloc (.cells #[.pointer none, .slice none 0 0, .slice none 0 0] 49)).heap.size = V1.heap.size + 1) := by show _ = _; simp
        have AZ := hidb (At.new3 V1 (.pointer none) (.slice none 0 0) (.slice none 0 0) 49)
        obtain ⟨Z, hZ⟩ : ∃ z, z = V1.heap.size := ⟨_, rfl⟩
        rw [← hZ] at AZ ⊢
        replace hZ := hidb hZ
        replace HT := hidb (HT.out.alloc (.cells #[.pointer none, .slice none 0 0, .slice none 0 0] 49))
        replace HR3 := hidb (HR3.out.alloc (.cells #[.pointer none, .slice none 0 0, .slice none 0 0] 49))
        replace HG := hidb (HG.out.alloc (.cells #[.pointer none, .slice none 0 0, .slice none 0 0] 49))
        replace HM := hidb (HM.out.alloc (.cells #[.pointer none, .slice none 0 0, .slice none 0 0] 49))
        replace HOr := hidb (HOr.out.below ((Gr.refl _).alloc (.cells #[.pointer none, .slice none 0 0, .slice none 0 0] 49)).out)
        replace HWc := hidb (HWc.out.alloc (.cells #[.pointer none, .slice none 0 0, .slice none 0 0] 49))
        generalize V1.alloc (.cells #[.pointer none, .slice none 0 0, .slice none 0 0] 49) = V12 at *
        refine wpAnyH_ready (rs := [5, 9]) (by kernel_rfl) (by simp) ?_
        refine AllReadyH.cons rfl (fun K hK => ?_) (AllReadyH.cons rfl (fun K hK => ?_) AllReadyH.nil)
        · skip
          go_simp
          refine hK.out _ _ ?_ (fun hHeld => ?_)
          · (try dsimp only); exact HT.out.alloc _
          clear hK K
          have szV13 : Hid ((V12.alloc (.cells CB 4)).heap.size = V12.heap.size + 1) := by show _ = _; simp
          have AS := hidb (At.newArr V12 CB 4)
          obtain ⟨IS, hIS⟩ : ∃ z, z = V12.heap.size := ⟨_, rfl⟩
          rw [← hIS] at AS ⊢
          replace hIS := hidb hIS
          replace HT := hidb (HT.out.alloc (.cells CB 4))
          replace HR3 := hidb (HR3.out.alloc (.cells CB 4))
          replace HG := hidb (HG.out.alloc (.cells CB 4))
          replace AZ := hidb (AZ.out.alloc (.cells CB 4))
          replace HM := hidb (HM.out.alloc (.cells CB 4))
          replace HOr := hidb (HOr.out.below ((Gr.refl _).alloc (.cells CB 4)).out)
          replace HWc := hidb (HWc.out.alloc (.cells CB 4))
          generalize V12.alloc (.cells CB 4) = V13 at *
          refine wpAnyH_ready (rs := [9]) (by kernel_rfl) (by simp) ?_
          refine AllReadyH.cons rfl (fun K hK => ?_) AllReadyH.nil
          go_simp
          refine hK.out _ _ ?_ (fun hHeld => ?_)
          · (try dsimp only); exact HT.out.alloc _
          clear hK K
          have szV14 : Hid ((V13.alloc (.cells CI 3)).heap.size = V13.heap.size + 1) := by show _ = _; simp
          have AN := hidb (At.newArr V13 CI 3)
          obtain ⟨IN, hIN⟩ : ∃ z, z = V13.heap.size := ⟨_, rfl⟩
          rw [← hIN] at AN ⊢
          replace hIN := hidb hIN
          replace HT := hidb (HT.out.alloc (.cells CI 3))
          replace HR3 := hidb (HR3.out.alloc (.cells CI 3))
          replace HG := hidb (HG.out.alloc (.cells CI 3))
          replace AS := hidb (AS.out.alloc (.cells CI 3))
          replace AZ := hidb (AZ.out.alloc (.cells CI 3))
          replace HM := hidb (HM.out.alloc (.cells CI 3))
          replace HOr := hidb (HOr.out.below ((Gr.refl _).alloc (.cells CI 3)).out)
          replace HWc := hidb (HWc.out.alloc (.cells CI 3))
          generalize V13.alloc (.cells CI 3) = V14 at *
          refine wpAnyH_take (i := 10) (v := ?vg10x448) rfl (by kernel_rfl) (by kernel_rfl) (by kernel_rfl) (fun _ _ _ h => h) (Or.inl ⟨by kernel_rfl, ?hg10x448⟩) (by assumption) ?rg10x448
          case hg10x448 => (intro w hSw; (try dsimp only at hSw); obtain ⟨x0, x1, x2⟩ := hSw.c3; go_simp; try with_reducible rfl)
          (try simp only [Act.put, List.getElem_toArray, List.getElem_cons_zero, List.getElem_cons_succ, List.setIfInBounds_toArray, List.set_cons_zero, List.set_cons_succ])
          refine wpAnyH_ready (rs := [12]) (by kernel_rfl) (by simp) ?_
          refine AllReadyH.cons rfl (fun K hK => ?_) AllReadyH.nil
          have NZT : Hid (¬ Z = T) := by
            show ¬ _
            have n1 := hZ.out; have n2 := hIS.out; have n3 := hIN.out; have n4 := HTR.out; have n5 := HS0.out; have n6 := HB.out; have n7 := HOb.out
            (try have mV14 := szV14.out)
            (try have mV13 := szV13.out)
            (try have mV12 := szV12.out)
            (try have mV1 := szV1.out)
            omega
          obtain ⟨z0, z1, z2⟩ := AZ.out.c3
          obtain ⟨y0, y1, y2⟩ := AZ.out.f3
          go_simp
          refine hK.out _ _ ?_ (fun hHeld => ?_)
          · (try dsimp only); exact ((HT.out.skip NZT.out _ _).skip NZT.out _ _).skip NZT.out _ _
          clear hK K
          refine wpAnyH_done (by kernel_rfl) ?_ _
          go_wp2_with fail
          go_meet
          have n1 := hZ.out; have n2 := hIS.out; have n3 := hIN.out; have n4 := HTR.out; have n5 := HS0.out; have n6 := HB.out; have n7 := HOb.out
          (try have mV14 := szV14.out)
          (try have mV13 := szV13.out)
          (try have mV12 := szV12.out)
          (try have mV1 := szV1.out)
          (try have m1 := lAS.out)
          (try have m2 := lAN.out)
          (try have m3 := lAZ.out)
          have l1 := AS.out.lt; have l2 := AN.out.lt; have l3 := AZ.out.lt
          have hOr := HOr.out; have hvo := HVo.out
          have nZ : Z ≠ F ∧ Z ≠ LV ∧ Z ≠ FL ∧ Z ≠ IS ∧ Z ≠ IN ∧ Z ≠ T ∧ Z ≠ R ∧ Z ≠ ob ∧ w.heap.size ≤ Z := by refine ⟨?_, ?_, ?_, ?_, ?_, ?_, ?_, ?_, ?_⟩ <;> omega
          obtain ⟨k1, k2, k3, k4, k5, k6, k7, k8, k9⟩ := nZ
          have nI : IS ≠ IN ∧ IS ≠ F ∧ IS ≠ FL ∧ IS ≠ ob ∧ IS ≠ T ∧ IN ≠ F ∧ IN ≠ FL ∧ IN ≠ ob ∧ IN ≠ T ∧ IS ≠ R ∧ IN ≠ R ∧ F ≠ R ∧ FL ≠ R ∧ ob ≠ R ∧ w.heap.size ≤ IS ∧ w.heap.size ≤ IN ∧ w.heap.size ≤ R := by refine ⟨?_, ?_, ?_, ?_, ?_, ?_, ?_, ?_, ?_, ?_, ?_, ?_, ?_, ?_, ?_, ?_, ?_⟩ <;> omega
          have hM2 := HMc.out.skip3 (Z := Z) HWc.out (by omega) (.pointer (some ⟨F, 0, none⟩)) (.slice (some ⟨IS, 0, none⟩) N N) (.slice (some ⟨IN, 0, none⟩) N N)
          refine ⟨Z, F, FL, IS, IN, LV, base, ob, ocap, Lv, Fl, vo, vq, qq, rfl, hidb ⟨hM2, HS.out, hvo, ((hOr.put k8.symm _ _).put k8.symm _ _).put k8.symm _ _, ((HT.out.skip k6 _ _).skip k6 _ _).skip k6 _ _, At.fill3 (AZ.out.has rfl) _ _ _, ((HR3.out.set _ _ _).set _ _ _).set _ _ _, (by rw [← HCS.out.1]; exact ((AS.out.skip k4 _ _).skip k4 _ _).skip k4 _ _), (by rw [← HCS.out.2]; exact ((AN.out.skip k5 _ _).skip k5 _ _).skip k5 _ _), ⟨k1, k2, k3, k4, k5, k6, k7, k8, k9⟩, nI⟩⟩
        · skip
          go_simp
          refine hK.out _ _ ?_ (fun hHeld => ?_)
          · (try dsimp only); exact HT.out.alloc _
          clear hK K
          have szV15 : Hid ((V12.alloc (.cells CI 3)).heap.size = V12.heap.size + 1) := by show _ = _; simp
          have AN := hidb (At.newArr V12 CI 3)
          obtain ⟨IN, hIN⟩ : ∃ z, z = V12.heap.size := ⟨_, rfl⟩
          rw [← hIN] at AN ⊢
          replace hIN := hidb hIN
          replace HT := hidb (HT.out.alloc (.cells CI 3))
          replace HR3 := hidb (HR3.out.alloc (.cells CI 3))
          replace HG := hidb (HG.out.alloc (.cells CI 3))
          replace AZ := hidb (AZ.out.alloc (.cells CI 3))
          replace HM := hidb (HM.out.alloc (.cells CI 3))
          replace HOr := hidb (HOr.out.below ((Gr.refl _).alloc (.cells CI 3)).out)
          replace HWc := hidb (HWc.out.alloc (.cells CI 3))
          generalize V12.alloc (.cells CI 3) = V15 at *
          refine wpAnyH_ready (rs := [5]) (by kernel_rfl) (by simp) ?_
          refine AllReadyH.cons rfl (fun K hK => ?_) AllReadyH.nil
          go_simp
          refine hK.out _ _ ?_ (fun hHeld => ?_)
          · (try dsimp only); exact HT.out.alloc _
          clear hK K
          have szV16 : Hid ((V15.alloc (.cells CB 4)).heap.size = V15.heap.size + 1) := by show _ = _; simp
          have AS := hidb (At.newArr V15 CB 4)
          obtain ⟨IS, hIS⟩ : ∃ z, z = V15.heap.size := ⟨_, rfl⟩
          rw [← hIS] at AS ⊢
          replace hIS := hidb hIS
          replace HT := hidb (HT.out.alloc (.cells CB 4))
          replace HR3 := hidb (HR3.out.alloc (.cells CB 4))
          replace HG := hidb (HG.out.alloc (.cells CB 4))
          replace AN := hidb (AN.out.alloc (.cells CB 4))
          replace AZ := hidb (AZ.out.alloc (.cells CB 4))
          replace HM := hidb (HM.out.alloc (.cells CB 4))
          replace HOr := hidb (HOr.out.below ((Gr.refl _).alloc (.cells CB 4)).out)
          replace HWc := hidb (HWc.out.alloc (.cells CB 4))
          generalize V15.alloc (.cells CB 4) = V16 at *
          refine wpAnyH_take (i := 10) (v := ?vg10x523) rfl (by kernel_rfl) (by kernel_rfl) (by kernel_rfl) (fun _ _ _ h => h) (Or.inl ⟨by kernel_rfl, ?hg10x523⟩) (by assumption) ?rg10x523
          case hg10x523 => (intro w hSw; (try dsimp only at hSw); obtain ⟨x0, x1, x2⟩ := hSw.c3; go_simp; try with_reducible rfl)
          (try simp only [Act.put, List.getElem_toArray, List.getElem_cons_zero, List.getElem_cons_succ, List.setIfInBounds_toArray, List.set_cons_zero, List.set_cons_succ])
          refine wpAnyH_ready (rs := [12]) (by kernel_rfl) (by simp) ?_
          refine AllReadyH.cons rfl (fun K hK => ?_) AllReadyH.nil
          have NZT : Hid (¬ Z = T) := by
            show ¬ _
            have n1 := hZ.out; have n2 := hIS.out; have n3 := hIN.out; have n4 := HTR.out; have n5 := HS0.out; have n6 := HB.out; have n7 := HOb.out
            (try have mV16 := szV16.out)
            (try have mV15 := szV15.out)
            (try have mV12 := szV12.out)
            (try have mV1 := szV1.out)
            omega
          obtain ⟨z0, z1, z2⟩ := AZ.out.c3
          obtain ⟨y0, y1, y2⟩ := AZ.out.f3
          go_simp
          refine hK.out _ _ ?_ (fun hHeld => ?_)
          · (try dsimp only); exact ((HT.out.skip NZT.out _ _).skip NZT.out _ _).skip NZT.out _ _
          clear hK K
          refine wpAnyH_done (by kernel_rfl) ?_ _
          go_wp2_with fail
          go_meet
          have n1 := hZ.out; have n2 := hIS.out; have n3 := hIN.out; have n4 := HTR.out; have n5 := HS0.out; have n6 := HB.out; have n7 := HOb.out
          (try have mV16 := szV16.out)
          (try have mV15 := szV15.out)
          (try have mV12 := szV12.out)
          (try have mV1 := szV1.out)
          (try have m1 := lAS.out)
          (try have m2 := lAN.out)
          (try have m3 := lAZ.out)
          have l1 := AS.out.lt; have l2 := AN.out.lt; have l3 := AZ.out.lt
          have hOr := HOr.out; have hvo := HVo.out
          have nZ : Z ≠ F ∧ Z ≠ LV ∧ Z ≠ FL ∧ Z ≠ IS ∧ Z ≠ IN ∧ Z ≠ T ∧ Z ≠ R ∧ Z ≠ ob ∧ w.heap.size ≤ Z := by refine ⟨?_, ?_, ?_, ?_, ?_, ?_, ?_, ?_, ?_⟩ <;> omega
          obtain ⟨k1, k2, k3, k4, k5, k6, k7, k8, k9⟩ := nZ
          have nI : IS ≠ IN ∧ IS ≠ F ∧ IS ≠ FL ∧ IS ≠ ob ∧ IS ≠ T ∧ IN ≠ F ∧ IN ≠ FL ∧ IN ≠ ob ∧ IN ≠ T ∧ IS ≠ R ∧ IN ≠ R ∧ F ≠ R ∧ FL ≠ R ∧ ob ≠ R ∧ w.heap.size ≤ IS ∧ w.heap.size ≤ IN ∧ w.heap.size ≤ R := by refine ⟨?_, ?_, ?_, ?_, ?_, ?_, ?_, ?_, ?_, ?_, ?_, ?_, ?_, ?_, ?_, ?_, ?_⟩ <;> omega
          have hM2 := HMc.out.skip3 (Z := Z) HWc.out (by omega) (.pointer (some ⟨F, 0, none⟩)) (.slice (some ⟨IS, 0, none⟩) N N) (.slice (some ⟨IN, 0, none⟩) N N)
          refine ⟨Z, F, FL, IS, IN, LV, base, ob, ocap, Lv, Fl, vo, vq, qq, rfl, hidb ⟨hM2, HS.out, hvo, ((hOr.put k8.symm _ _).put k8.symm _ _).put k8.symm _ _, ((HT.out.skip k6 _ _).skip k6 _ _).skip k6 _ _, At.fill3 (AZ.out.has rfl) _ _ _, ((HR3.out.set _ _ _).set _ _ _).set _ _ _, (by rw [← HCS.out.1]; exact ((AS.out.skip k4 _ _).skip k4 _ _).skip k4 _ _), (by rw [← HCS.out.2]; exact ((AN.out.skip k5 _ _).skip k5 _ _).skip k5 _ _), ⟨k1, k2, k3, k4, k5, k6, k7, k8, k9⟩, nI⟩⟩
    · skip
      go_simp
      refine hK.out _ _ ?_ (fun hHeld => ?_)
      · (try dsimp only); exact HT.out.alloc _
      clear hK K
      have szV17 : Hid ((V0.alloc (.cells CB 4)).heap.size = V0.heap.size + 1) := by show _ = _; simp
      have AS := hidb (At.newArr V0 CB 4)
      obtain ⟨IS, hIS⟩ : ∃ z, z = V0.heap.size := ⟨_, rfl⟩
      rw [← hIS] at AS ⊢
      replace hIS := hidb hIS
      replace HT := hidb (HT.out.alloc (.cells CB 4))
      replace HR3 := hidb (HR3.out.alloc (.cells CB 4))
      replace HG := hidb (HG.out.alloc (.cells CB 4))
      generalize V0.alloc (.cells CB 4) = V17 at *
      refine wpAnyH_ready (rs := [1, 9, 11]) (by kernel_rfl) (by simp) ?_
      refine AllReadyH.cons rfl (fun K hK => ?_) (AllReadyH.cons rfl (fun K hK => ?_) (AllReadyH.cons rfl (fun K hK => ?_) AllReadyH.nil))
      · skip
        go_simp
        go_wp2_with (go_at_call 28; refine (HF.out _ HG.out).mono ?_; rintro e V18 ⟨F, base, LV, FL, Lv, Fl, vo, vq, qq, rfl, hM, hS⟩)
        refine hK.out _ _ ?_ (fun hHeld => ?_)
        · (try dsimp only); exact At.below hM.gr.out HT.out
        clear hK K
        have hbl := hM.gr.out
        replace HT := hidb (At.below hbl HT.out)
        replace HR3 := hidb (Has.below hbl HR3.out)
        have HB := hidb (show (V17.heap.size ≤ F ∧ V17.heap.size ≤ LV ∧ V17.heap.size ≤ FL) ∧ (F < base ∧ LV < base ∧ FL < base) ∧ base ≤ V18.heap.size ∧ V17.heap.size ≤ base from hM.b1)
        have lAS := hidb (AS.out.lt)
        replace AS := hidb (At.below hbl AS.out)
        obtain ⟨ob, ocap, hvo, hOr⟩ := own_rs2 hM.ro (by rw [List.length_map]; exact HOl.out.2)
        have HOb := hidb (show base ≤ ob ∧ ob < V18.heap.size from ⟨(hM.ro.lt ob (by rw [hvo]; rfl)).1, hOr.lt⟩)
        have HVo := hidb hvo
        have HOr := hidb hOr
        clear hvo hOr
        have HM := hidb (FM.rebase HG.out hM)
        have HS := hidb hS
        replace HG := hidb (Gr.step HG.out hbl)
        clear hM hS hbl
        have HWc := hidb (Gr.refl V18)
        have HMc := hidb HM.out
        refine wpAnyH_ready (rs := [9, 11]) (by kernel_rfl) (by simp) ?_
        refine AllReadyH.cons rfl (fun K hK => ?_) (AllReadyH.cons rfl (fun K hK => ?_) AllReadyH.nil)
        · skip
          go_simp
          refine hK.out _ _ ?_ (fun hHeld => ?_)
          · (try dsimp only); exact HT.out.alloc _
          clear hK K
          have szV19 : Hid ((V18.alloc (.cells CI 3)).heap.size = V18.heap.size + 1) := by show _ = _; simp
          have AN := hidb (At.newArr V18 CI 3)
          obtain ⟨IN, hIN⟩ : ∃ z, z = V18.heap.size := ⟨_, rfl⟩
          rw [← hIN] at AN ⊢
          replace hIN := hidb hIN
          replace HT := hidb (HT.out.alloc (.cells CI 3))
          replace HR3 := hidb (HR3.out.alloc (.cells CI 3))
          replace HG := hidb (HG.out.alloc (.cells CI 3))
          replace AS := hidb (AS.out.alloc (.cells CI 3))
          replace HM := hidb (HM.out.alloc (.cells CI 3))
          replace HOr := hidb (HOr.out.below ((Gr.refl _).alloc (.cells CI 3)).out)
          replace HWc := hidb (HWc.out.alloc (.cells CI 3))
          generalize V18.alloc (.cells CI 3) = V19 at *
          refine wpAnyH_take (i := 10) (v := ?vg10x619) rfl (by kernel_rfl) (by kernel_rfl) (by kernel_rfl) (fun _ _ _ h => h) (Or.inl ⟨by kernel_rfl, ?hg10x619⟩) (by assumption) ?rg10x619
          case hg10x619 => (intro w hSw; (try dsimp only at hSw); obtain ⟨x0, x1, x2⟩ := hSw.c3; go_simp; try with_reducible rfl)
          (try simp only [Act.put, List.getElem_toArray, List.getElem_cons_zero, List.getElem_cons_succ, List.setIfInBounds_toArray, List.set_cons_zero, List.set_cons_succ])
          refine wpAnyH_ready (rs := [11]) (by kernel_rfl) (by simp) ?_
          refine AllReadyH.cons rfl (fun K hK => ?_) AllReadyH.nil
          go_simp
          refine hK.out _ _ ?_ (fun hHeld => ?_)
          · (try dsimp only); exact HT.out.alloc _
          clear hK K
          have szV20 : Hid ((V19.alloc (.cells #[.pointer none, .slice none 0 0, .slice none 0 0] 49)).heap.size = V19.heap.size + 1) := by show _ = _; simp
          have AZ := hidb (At.new3 V19 (.pointer none) (.slice none 0 0) (.slice none 0 0) 49)
          obtain ⟨Z, hZ⟩ : ∃ z, z = V19.heap.size := ⟨_, rfl⟩
          rw [← hZ] at AZ ⊢
          replace hZ := hidb hZ
          replace HT := hidb (HT.out.alloc (.cells #[.pointer none, .slice none 0 0, .slice none 0 0] 49))
          replace HR3 := hidb (HR3.out.alloc (.cells #[.pointer none, .slice none 0 0, .slice none 0 0] 49))
          replace HG := hidb (HG.out.alloc (.cells #[.pointer none, .slice none 0 0, .slice none 0 0] 49))
          replace AS := hidb (AS.out.alloc (.cells #[.pointer none, .slice none 0 0, .slice none 0 0] 49))
          replace AN := hidb (AN.out.alloc (.cells #[.pointer none, .slice none 0 0, .slice none 0 0] 49))
          replace HM := hidb (HM.out.alloc (.cells #[.pointer none, .slice none 0 0, .slice none 0 0] 49))
          replace HOr := hidb (HOr.out.below ((Gr.refl _).alloc (.cells #[.pointer none, .slice none 0 0, .slice none 0 0] 49)).out)
          replace HWc := hidb (HWc.out.alloc (.cells #[.pointer none, .slice none 0 0, .slice none 0 0] 49))
          generalize V19.alloc (.cells #[.pointer none, .slice none 0 0, .slice none 0 0] 49) = V20 at *
          refine wpAnyH_ready (rs := [12]) (by kernel_rfl) (by simp) ?_
          refine AllReadyH.cons rfl (fun K hK => ?_) AllReadyH.nil
          have NZT : Hid (¬ Z = T) := by
            show ¬ _
            have n1 := hZ.out; have n2 := hIS.out; have n3 := hIN.out; have n4 := HTR.out; have n5 := HS0.out; have n6 := HB.out; have n7 := HOb.out
            (try have mV20 := szV20.out)
            (try have mV19 := szV19.out)
            (try have mV18 := szV18.out)
            (try have mV17 := szV17.out)
            omega
          obtain ⟨z0, z1, z2⟩ := AZ.out.c3
          obtain ⟨y0, y1, y2⟩ := AZ.out.f3
          go_simp
          refine hK.out _ _ ?_ (fun hHeld => ?_)
          · (try dsimp only); exact ((HT.out.skip NZT.out _ _).skip NZT.out _ _).skip NZT.out _ _
          clear hK K
          refine wpAnyH_done (by kernel_rfl) ?_ _
          go_wp2_with fail
          go_meet
          have n1 := hZ.out; have n2 := hIS.out; have n3 := hIN.out; have n4 := HTR.out; have n5 := HS0.out; have n6 := HB.out; have n7 := HOb.out
          (try have mV20 := szV20.out)
          (try have mV19 := szV19.out)
          (try have mV18 := szV18.out)
          (try have mV17 := szV17.out)
          (try have m1 := lAS.out)
          (try have m2 := lAN.out)
          (try have m3 := lAZ.out)
          have l1 := AS.out.lt; have l2 := AN.out.lt; have l3 := AZ.out.lt
          have hOr := HOr.out; have hvo := HVo.out
          have nZ : Z ≠ F ∧ Z ≠ LV ∧ Z ≠ FL ∧ Z ≠ IS ∧ Z ≠ IN ∧ Z ≠ T ∧ Z ≠ R ∧ Z ≠ ob ∧ w.heap.size ≤ Z := by refine ⟨?_, ?_, ?_, ?_, ?_, ?_, ?_, ?_, ?_⟩ <;> omega
          obtain ⟨k1, k2, k3, k4, k5, k6, k7, k8, k9⟩ := nZ
          have nI : IS ≠ IN ∧ IS ≠ F ∧ IS ≠ FL ∧ IS ≠ ob ∧ IS ≠ T ∧ IN ≠ F ∧ IN ≠ FL ∧ IN ≠ ob ∧ IN ≠ T ∧ IS ≠ R ∧ IN ≠ R ∧ F ≠ R ∧ FL ≠ R ∧ ob ≠ R ∧ w.heap.size ≤ IS ∧ w.heap.size ≤ IN ∧ w.heap.size ≤ R := by refine ⟨?_, ?_, ?_, ?_, ?_, ?_, ?_, ?_, ?_, ?_, ?_, ?_, ?_, ?_, ?_, ?_, ?_⟩ <;> omega
          have hM2 := HMc.out.skip3 (Z := Z) HWc.out (by omega) (.pointer (some ⟨F, 0, none⟩)) (.slice (some ⟨IS, 0, none⟩) N N) (.slice (some ⟨IN, 0, none⟩) N N)
          refine ⟨Z, F, FL, IS, IN, LV, base, ob, ocap, Lv, Fl, vo, vq, qq, rfl, hidb ⟨hM2, HS.out, hvo, ((hOr.put k8.symm _ _).put k8.symm _ _).put k8.symm _ _, ((HT.out.skip k6 _ _).skip k6 _ _).skip k6 _ _, At.fill3 (AZ.out.has rfl) _ _ _, ((HR3.out.set _ _ _).set _ _ _).set _ _ _, (by rw [← HCS.out.1]; exact ((AS.out.skip k4 _ _).skip k4 _ _).skip k4 _ _), (by rw [← HCS.out.2]; exact ((AN.out.skip k5 _ _).skip k5 _ _).skip k5 _ _), ⟨k1, k2, k3, k4, k5, k6, k7, k8, k9⟩, nI⟩⟩
        · skip
          go_simp
          refine hK.out _ _ ?_ (fun hHeld => ?_)
          · (try dsimp only); exact HT.out.alloc _
          clear hK K
          have szV21 : Hid ((V18.alloc (.cells #[.pointer none, .slice none 0 0, .slice none 0 0] 49)).heap.size = V18.heap.size + 1) := by show _ = _; simp
          have AZ := hidb (At.new3 V18 (.pointer none) (.slice none 0 0) (.slice none 0 0) 49)
          obtain ⟨Z, hZ⟩ : ∃ z, z = V18.heap.size := ⟨_, rfl⟩
          rw [← hZ] at AZ ⊢
          replace hZ := hidb hZ
          replace HT := hidb (HT.out.alloc (.cells #[.pointer none, .slice none 0 0, .slice none 0 0] 49))
          replace HR3 := hidb (HR3.out.alloc (.cells #[.pointer none, .slice none 0 0, .slice none 0 0] 49))
          replace HG := hidb (HG.out.alloc (.cells #[.pointer none, .slice none 0 0, .slice none 0 0] 49))
          replace AS := hidb (AS.out.alloc (.cells #[.pointer none, .slice none 0 0, .slice none 0 0] 49))
          replace HM := hidb (HM.out.alloc (.cells #[.pointer none, .slice none 0 0, .slice none 0 0] 49))
          replace HOr := hidb (HOr.out.below ((Gr.refl _).alloc (.cells #[.pointer none, .slice none 0 0, .slice none 0 0] 49)).out)
          replace HWc := hidb (HWc.out.alloc (.cells #[.pointer none, .slice none 0 0, .slice none 0 0] 49))
          generalize V18.alloc (.cells #[.pointer none, .slice none 0 0, .slice none 0 0] 49) = V21 at *
          refine wpAnyH_ready (rs := [9]) (by kernel_rfl) (by simp) ?_
          refine AllReadyH.cons rfl (fun K hK => ?_) AllReadyH.nil
          go_simp
          refine hK.out _ _ ?_ (fun hHeld => ?_)
          · (try dsimp only); exact HT.out.alloc _
          clear hK K
          have szV22 : Hid ((V21.alloc (.cells CI 3)).heap.size = V21.heap.size + 1) := by show _ = _; simp
          have AN := hidb (At.newArr V21 CI 3)
          obtain ⟨IN, hIN⟩ : ∃ z, z = V21.heap.size := ⟨_, rfl⟩
          rw [← hIN] at AN ⊢
          replace hIN := hidb hIN
          replace HT := hidb (HT.out.alloc (.cells CI 3))
          replace HR3 := hidb (HR3.out.alloc (.cells CI 3))
          replace HG := hidb (HG.out.alloc (.cells CI 3))
          replace AS := hidb (AS.out.alloc (.cells CI 3))
          replace AZ := hidb (AZ.out.alloc (.cells CI 3))
          replace HM := hidb (HM.out.alloc (.cells CI 3))
          replace HOr := hidb (HOr.out.below ((Gr.refl _).alloc (.cells CI 3)).out)
          replace HWc := hidb (HWc.out.alloc (.cells CI 3))
          generalize V21.alloc (.cells CI 3) = V22 at *
          refine wpAnyH_take (i := 10) (v := ?vg10x714) rfl (by kernel_rfl) (by kernel_rfl) (by kernel_rfl) (fun _ _ _ h => h) (Or.inl ⟨by kernel_rfl, ?hg10x714⟩) (by assumption) ?rg10x714
          case hg10x714 => (intro w hSw; (try dsimp only at hSw); obtain ⟨x0, x1, x2⟩ := hSw.c3; go_simp; try with_reducible rfl)
          (try simp only [Act.put, List.getElem_toArray, List.getElem_cons_zero, List.getElem_cons_succ, List.setIfInBounds_toArray, List.set_cons_zero, List.set_cons_succ])
          refine wpAnyH_ready (rs := [12]) (by kernel_rfl) (by simp) ?_
          refine AllReadyH.cons rfl (fun K hK => ?_) AllReadyH.nil
          have NZT : Hid (¬ Z = T) := by
            show ¬ _
            have n1 := hZ.out; have n2 := hIS.out; have n3 := hIN.out; have n4 := HTR.out; have n5 := HS0.out; have n6 := HB.out; have n7 := HOb.out
            (try have mV22 := szV22.out)
            (try have mV21 := szV21.out)
            (try have mV18 := szV18.out)
            (try have mV17 := szV17.out)
            omega
          obtain ⟨z0, z1, z2⟩ := AZ.out.c3
          obtain ⟨y0, y1, y2⟩ := AZ.out.f3
          go_simp
          refine hK.out _ _ ?_ (fun hHeld => ?_)
          · (try dsimp only); exact ((HT.out.skip NZT.out _ _).skip NZT.out _ _).skip NZT.out _ _
          clear hK K
          refine wpAnyH_done (by kernel_rfl) ?_ _
          go_wp2_with fail
          go_meet
          have n1 := hZ.out; have n2 := hIS.out; have n3 := hIN.out; have n4 := HTR.out; have n5 := HS0.out; have n6 := HB.out; have n7 := HOb.out
          (try have mV22 := szV22.out)
          (try have mV21 := szV21.out)
          (try have mV18 := szV18.out)
          (try have mV17 := szV17.out)
          (try have m1 := lAS.out)
          (try have m2 := lAN.out)
          (try have m3 := lAZ.out)
          have l1 := AS.out.lt; have l2 := AN.out.lt; have l3 := AZ.out.lt
          have hOr := HOr.out; have hvo := HVo.out
          have nZ : Z ≠ F ∧ Z ≠ LV ∧ Z ≠ FL ∧ Z ≠ IS ∧ Z ≠ IN ∧ Z ≠ T ∧ Z ≠ R ∧ Z ≠ ob ∧ w.heap.size ≤ Z := by refine ⟨?_, ?_, ?_, ?_, ?_, ?_, ?_, ?_, ?_⟩ <;> omega
          obtain ⟨k1, k2, k3, k4, k5, k6, k7, k8, k9⟩ := nZ
          have nI : IS ≠ IN ∧ IS ≠ F ∧ IS ≠ FL ∧ IS ≠ ob ∧ IS ≠ T ∧ IN ≠ F ∧ IN ≠ FL ∧ IN ≠ ob ∧ IN ≠ T ∧ IS ≠ R ∧ IN ≠ R ∧ F ≠ R ∧ FL ≠ R ∧ ob ≠ R ∧ w.heap.size ≤ IS ∧ w.heap.size ≤ IN ∧ w.heap.size ≤ R := by refine ⟨?_, ?_, ?_, ?_, ?_, ?_, ?_, ?_, ?_, ?_, ?_, ?_, ?_, ?_, ?_, ?_, ?_⟩ <;> omega
          have hM2 := HMc.out.skip3 (Z := Z) HWc.out (by omega) (.pointer (some ⟨F, 0, none⟩)) (.slice (some ⟨IS, 0, none⟩) N N) (.slice (some ⟨IN, 0, none⟩) N N)
          refine ⟨Z, F, FL, IS, IN, LV, base, ob, ocap, Lv, Fl, vo, vq, qq, rfl, hidb ⟨hM2, HS.out, hvo, ((hOr.put k8.symm _ _).put k8.symm _ _).put k8.symm _ _, ((HT.out.skip k6 _ _).skip k6 _ _).skip k6 _ _, At.fill3 (AZ.out.has rfl) _ _ _, ((HR3.out.set _ _ _).set _ _ _).set _ _ _, (by rw [← HCS.out.1]; exact ((AS.out.skip k4 _ _).skip k4 _ _).skip k4 _ _), (by rw [← HCS.out.2]; exact ((AN.out.skip k5 _ _).skip k5 _ _).skip k5 _ _), ⟨k1, k2, k3, k4, k5, k6, k7, k8, k9⟩, nI⟩⟩
      · skip
        go_simp
        refine hK.out _ _ ?_ (fun hHeld => ?_)
        · (try dsimp only); exact HT.out.alloc _
        clear hK K
        have szV23 : Hid ((V17.alloc (.cells CI 3)).heap.size = V17.heap.size + 1) := by show _ = _; simp
        have AN := hidb (At.newArr V17 CI 3)
        obtain ⟨IN, hIN⟩ : ∃ z, z = V17.heap.size := ⟨_, rfl⟩
        rw [← hIN] at AN ⊢
        replace hIN := hidb hIN
        replace HT := hidb (HT.out.alloc (.cells CI 3))
        replace HR3 := hidb (HR3.out.alloc (.cells CI 3))
        replace HG := hidb (HG.out.alloc (.cells CI 3))
        replace AS := hidb (AS.out.alloc (.cells CI 3))
        generalize V17.alloc (.cells CI 3) = V23 at *
        refine wpAnyH_ready (rs := [1, 11]) (by kernel_rfl) (by simp) ?_
        refine AllReadyH.cons rfl (fun K hK => ?_) (AllReadyH.cons rfl (fun K hK => ?_) AllReadyH.nil)
        · skip
          go_simp
          go_wp2_with (go_at_call 28; refine (HF.out _ HG.out).mono ?_; rintro e V24 ⟨F, base, LV, FL, Lv, Fl, vo, vq, qq, rfl, hM, hS⟩)
          refine hK.out _ _ ?_ (fun hHeld => ?_)
          · (try dsimp only); exact At.below hM.gr.out HT.out
          clear hK K
          have hbl := hM.gr.out
          replace HT := hidb (At.below hbl HT.out)
          replace HR3 := hidb (Has.below hbl HR3.out)
          have HB := hidb (show (V23.heap.size ≤ F ∧ V23.heap.size ≤ LV ∧ V23.heap.size ≤ FL) ∧ (F < base ∧ LV < base ∧ FL < base) ∧ base ≤ V24.heap.size ∧ V23.heap.size ≤ base from hM.b1)
          have lAS := hidb (AS.out.lt)
          replace AS := hidb (At.below hbl AS.out)
          have lAN := hidb (AN.out.lt)
          replace AN := hidb (At.below hbl AN.out)
          obtain ⟨ob, ocap, hvo, hOr⟩ := own_rs2 hM.ro (by rw [List.length_map]; exact HOl.out.2)
          have HOb := hidb (show base ≤ ob ∧ ob < V24.heap.size from ⟨(hM.ro.lt ob (by rw [hvo]; rfl)).1, hOr.lt⟩)
          have HVo := hidb hvo
          have HOr := hidb hOr
          clear hvo hOr
          have HM := hidb (FM.rebase HG.out hM)
          have HS := hidb hS
          replace HG := hidb (Gr.step HG.out hbl)
          clear hM hS hbl
          have HWc := hidb (Gr.refl V24)
          have HMc := hidb HM.out
          refine wpAnyH_take (i := 10) (v := ?vg10x793) rfl (by kernel_rfl) (by kernel_rfl) (by kernel_rfl) (fun _ _ _ h => h) (Or.inl ⟨by kernel_rfl, ?hg10x793⟩) (by assumption) ?rg10x793
          case hg10x793 => (intro w hSw; (try dsimp only at hSw); obtain ⟨x0, x1, x2⟩ := hSw.c3; go_simp; try with_reducible rfl)
          (try simp only [Act.put, List.getElem_toArray, List.getElem_cons_zero, List.getElem_cons_succ, List.setIfInBounds_toArray, List.set_cons_zero, List.set_cons_succ])
          refine wpAnyH_ready (rs := [11]) (by kernel_rfl) (by simp) ?_
          refine AllReadyH.cons rfl (fun K hK => ?_) AllReadyH.nil
          go_simp
          refine hK.out _ _ ?_ (fun hHeld => ?_)
          · (try dsimp only); exact HT.out.alloc _
          clear hK K
          have szV25 : Hid ((V24.alloc (.cells #[.pointer none, .slice none 0 0, .slice none 0 0] 49)).heap.size = V24.heap.size + 1) := by show _ = _; simp
          have AZ := hidb (At.new3 V24 (.pointer none) (.slice none 0 0) (.slice none 0 0) 49)
          obtain ⟨Z, hZ⟩ : ∃ z, z = V24.heap.size := ⟨_, rfl⟩
          rw [← hZ] at AZ ⊢
          replace hZ := hidb hZ
          replace HT := hidb (HT.out.alloc (.cells #[.pointer none, .slice none 0 0, .slice none 0 0] 49))
          replace HR3 := hidb (HR3.out.alloc (.cells #[.pointer none, .slice none 0 0, .slice none 0 0] 49))
          replace HG := hidb (HG.out.alloc (.cells #[.pointer none, .slice none 0 0, .slice none 0 0] 49))
          replace AS := hidb (AS.out.alloc (.cells #[.pointer none, .slice none 0 0, .slice none 0 0] 49))
          replace AN := hidb (AN.out.alloc (.cells #[.pointer none, .slice none 0 0, .slice none 0 0] 49))
          replace HM := hidb (HM.out.alloc (.cells #[.pointer none, .slice none 0 0, .slice none 0 0] 49))
          replace HOr := hidb (HOr.out.below ((Gr.refl _).alloc (.cells #[.pointer none, .slice none 0 0, .slice none 0 0] 49)).out)
          replace HWc := hidb (HWc.out.alloc (.cells #[.pointer none, .slice none 0 0, .slice none 0 0] 49))
          generalize V24.alloc (.cells #[.pointer none, .slice none 0 0, .slice none 0 0] 49) = V25 at *
          refine wpAnyH_ready (rs := [12]) (by kernel_rfl) (by simp) ?_
          refine AllReadyH.cons rfl (fun K hK => ?_) AllReadyH.nil
          have NZT : Hid (¬ Z = T) := by
            show ¬ _
            have n1 := hZ.out; have n2 := hIS.out; have n3 := hIN.out; have n4 := HTR.out; have n5 := HS0.out; have n6 := HB.out; have n7 := HOb.out
            (try have mV25 := szV25.out)
            (try have mV24 := szV24.out)
            (try have mV23 := szV23.out)
            (try have mV17 := szV17.out)
            omega
          obtain ⟨z0, z1, z2⟩ := AZ.out.c3
          obtain ⟨y0, y1, y2⟩ := AZ.out.f3
          go_simp
          refine hK.out _ _ ?_ (fun hHeld => ?_)
          · (try dsimp only); exact ((HT.out.skip NZT.out _ _).skip NZT.out _ _).skip NZT.out _ _
          clear hK K
          refine wpAnyH_done (by kernel_rfl) ?_ _
          go_wp2_with fail
          go_meet
          have n1 := hZ.out; have n2 := hIS.out; have n3 := hIN.out; have n4 := HTR.out; have n5 := HS0.out; have n6 := HB.out; have n7 := HOb.out
          (try have mV25 := szV25.out)
          (try have mV24 := szV24.out)
          (try have mV23 := szV23.out)
          (try have mV17 := szV17.out)
          (try have m1 := lAS.out)
          (try have m2 := lAN.out)
          (try have m3 := lAZ.out)
          have l1 := AS.out.lt; have l2 := AN.out.lt; have l3 := AZ.out.lt
          have hOr := HOr.out; have hvo := HVo.out
          have nZ : Z ≠ F ∧ Z ≠ LV ∧ Z ≠ FL ∧ Z ≠ IS ∧ Z ≠ IN ∧ Z ≠ T ∧ Z ≠ R ∧ Z ≠ ob ∧ w.heap.size ≤ Z := by refine ⟨?_, ?_, ?_, ?_, ?_, ?_, ?_, ?_, ?_⟩ <;> omega
          obtain ⟨k1, k2, k3, k4, k5, k6, k7, k8, k9⟩ := nZ
          have nI : IS ≠ IN ∧ IS ≠ F ∧ IS ≠ FL ∧ IS ≠ ob ∧ IS ≠ T ∧ IN ≠ F ∧ IN ≠ FL ∧ IN ≠ ob ∧ IN ≠ T ∧ IS ≠ R ∧ IN ≠ R ∧ F ≠ R ∧ FL ≠ R ∧ ob ≠ R ∧ w.heap.size ≤ IS ∧ w.heap.size ≤ IN ∧ w.heap.size ≤ R := by refine ⟨?_, ?_, ?_, ?_, ?_, ?_, ?_, ?_, ?_, ?_, ?_, ?_, ?_, ?_, ?_, ?_, ?_⟩ <;> omega
          have hM2 := HMc.out.skip3 (Z := Z) HWc.out (by omega) (.pointer (some ⟨F, 0, none⟩)) (.slice (some ⟨IS, 0, none⟩) N N) (.slice (some ⟨IN, 0, none⟩) N N)
          refine ⟨Z, F, FL, IS, IN, LV, base, ob, ocap, Lv, Fl, vo, vq, qq, rfl, hidb ⟨hM2, HS.out, hvo, ((hOr.put k8.symm _ _).put k8.symm _ _).put k8.symm _ _, ((HT.out.skip k6 _ _).skip k6 _ _).skip k6 _ _, At.fill3 (AZ.out.has rfl) _ _ _, ((HR3.out.set _ _ _).set _ _ _).set _ _ _, (by rw [← HCS.out.1]; exact ((AS.out.skip k4 _ _).skip k4 _ _).skip k4 _ _), (by rw [← HCS.out.2]; exact ((AN.out.skip k5 _ _).skip k5 _ _).skip k5 _ _), ⟨k1, k2, k3, k4, k5, k6, k7, k8, k9⟩, nI⟩⟩
        · skip
          go_simp
          refine hK.out _ _ ?_ (fun hHeld => ?_)
          · (try dsimp only); exact HT.out.alloc _
          clear hK K
          have szV26 : Hid ((V23.alloc (.cells #[.pointer none, .slice none 0 0, .slice none 0 0] 49)).heap.size = V23.heap.size + 1) := by show _ = _; simp
          have AZ := hidb (At.new3 V23 (.pointer none) (.slice none 0 0) (.slice none 0 0) 49)
          obtain ⟨Z, hZ⟩ : ∃ z, z = V23.heap.size := ⟨_, rfl⟩
          rw [← hZ] at AZ ⊢
          replace hZ := hidb hZ
          replace HT := hidb (HT.out.alloc (.cells #[.pointer none, .slice none 0 0, .slice none 0 0] 49))
          replace HR3 := hidb (HR3.out.alloc (.cells #[.pointer none, .slice none 0 0, .slice none 0 0] 49))
          replace HG := hidb (HG.out.alloc (.cells #[.pointer none, .slice none 0 0, .slice none 0 0] 49))
          replace AS := hidb (AS.out.alloc (.cells #[.pointer none, .slice none 0 0, .slice none 0 0] 49))
          replace AN := hidb (AN.out.alloc (.cells #[.pointer none, .slice none 0 0, .slice none 0 0] 49))
          generalize V23.alloc (.cells #[.pointer none, .slice none 0 0, .slice none 0 0] 49) = V26 at *
          refine wpAnyH_ready (rs := [1]) (by kernel_rfl) (by simp) ?_
          refine AllReadyH.cons rfl (fun K hK => ?_) AllReadyH.nil
          go_simp
          go_wp2_with (go_at_call 28; refine (HF.out _ HG.out).mono ?_; rintro e V27 ⟨F, base, LV, FL, Lv, Fl, vo, vq, qq, rfl, hM, hS⟩)
          refine hK.out _ _ ?_ (fun hHeld => ?_)
          · (try dsimp only); exact At.below hM.gr.out HT.out
          clear hK K
          have hbl := hM.gr.out
          replace HT := hidb (At.below hbl HT.out)
          replace HR3 := hidb (Has.below hbl HR3.out)
          have HB := hidb (show (V26.heap.size ≤ F ∧ V26.heap.size ≤ LV ∧ V26.heap.size ≤ FL) ∧ (F < base ∧ LV < base ∧ FL < base) ∧ base ≤ V27.heap.size ∧ V26.heap.size ≤ base from hM.b1)
          have lAS := hidb (AS.out.lt)
          replace AS := hidb (At.below hbl AS.out)
          have lAN := hidb (AN.out.lt)
          replace AN := hidb (At.below hbl AN.out)
          have lAZ := hidb (AZ.out.lt)
          replace AZ := hidb (At.below hbl AZ.out)
          obtain ⟨ob, ocap, hvo, hOr⟩ := own_rs2 hM.ro (by rw [List.length_map]; exact HOl.out.2)
          have HOb := hidb (show base ≤ ob ∧ ob < V27.heap.size from ⟨(hM.ro.lt ob (by rw [hvo]; rfl)).1, hOr.lt⟩)
          have HVo := hidb hvo
          have HOr := hidb hOr
          clear hvo hOr
          have HM := hidb (FM.rebase HG.out hM)
          have HS := hidb hS
          replace HG := hidb (Gr.step HG.out hbl)
          clear hM hS hbl
          have HWc := hidb (Gr.refl V27)
          have HMc := hidb HM.out
          refine wpAnyH_take (i := 10) (v := ?vg10x894) rfl (by kernel_rfl) (by kernel_rfl) (by kernel_rfl) (fun _ _ _ h => h) (Or.inl ⟨by kernel_rfl, ?hg10x894⟩) (by assumption) ?rg10x894
          case hg10x894 => (intro w hSw; (try dsimp only at hSw); obtain ⟨x0, x1, x2⟩ := hSw.c3; go_simp; try with_reducible rfl)
          (try simp only [Act.put, List.getElem_toArray, List.getElem_cons_zero, List.getElem_cons_succ, List.setIfInBounds_toArray, List.set_cons_zero, List.set_cons_succ])
          refine wpAnyH_ready (rs := [12]) (by kernel_rfl) (by simp) ?_
          refine AllReadyH.cons rfl (fun K hK => ?_) AllReadyH.nil
          have NZT : Hid (¬ Z = T) := by
            show ¬ _
            have n1 := hZ.out; have n2 := hIS.out; have n3 := hIN.out; have n4 := HTR.out; have n5 := HS0.out; have n6 := HB.out; have n7 := HOb.out
            (try have mV27 := szV27.out)
            (try have mV26 := szV26.out)
            (try have mV23 := szV23.out)
            (try have mV17 := szV17.out)
            omega
          obtain ⟨z0, z1, z2⟩ := AZ.out.c3
          obtain ⟨y0, y1, y2⟩ := AZ.out.f3
          go_simp
          refine hK.out _ _ ?_ (fun hHeld => ?_)
          · (try dsimp only); exact ((HT.out.skip NZT.out _ _).skip NZT.out _ _).skip NZT.out _ _
          clear hK K
          refine wpAnyH_done (by kernel_rfl) ?_ _
          go_wp2_with fail
          go_meet
          have n1 := hZ.out; have n2 := hIS.out; have n3 := hIN.out; have n4 := HTR.out; have n5 := HS0.out; have n6 := HB.out; have n7 := HOb.out
          (try have mV27 := szV27.out)
          (try have mV26 := szV26.out)
          (try have mV23 := szV23.out)
          (try have mV17 := szV17.out)
          (try have m1 := lAS.out)
          (try have m2 := lAN.out)
          (try have m3 := lAZ.out)
          have l1 := AS.out.lt; have l2 := AN.out.lt; have l3 := AZ.out.lt
          have hOr := HOr.out; have hvo := HVo.out
          have nZ : Z ≠ F ∧ Z ≠ LV ∧ Z ≠ FL ∧ Z ≠ IS ∧ Z ≠ IN ∧ Z ≠ T ∧ Z ≠ R ∧ Z ≠ ob ∧ w.heap.size ≤ Z := by refine ⟨?_, ?_, ?_, ?_, ?_, ?_, ?_, ?_, ?_⟩ <;> omega
          obtain ⟨k1, k2, k3, k4, k5, k6, k7, k8, k9⟩ := nZ
          have nI : IS ≠ IN ∧ IS ≠ F ∧ IS ≠ FL ∧ IS ≠ ob ∧ IS ≠ T ∧ IN ≠ F ∧ IN ≠ FL ∧ IN ≠ ob ∧ IN ≠ T ∧ IS ≠ R ∧ IN ≠ R ∧ F ≠ R ∧ FL ≠ R ∧ ob ≠ R ∧ w.heap.size ≤ IS ∧ w.heap.size ≤ IN ∧ w.heap.size ≤ R := by refine ⟨?_, ?_, ?_, ?_, ?_, ?_, ?_, ?_, ?_, ?_, ?_, ?_, ?_, ?_, ?_, ?_, ?_⟩ <;> omega
          have hM2 := ((HM.out.skip (Z := Z) (by omega) k1 k2 k3 k9 0 (.pointer (some ⟨F, 0, none⟩))).skip (Z := Z) (by omega) k1 k2 k3 k9 1 (.slice (some ⟨IS, 0, none⟩) N N)).skip (Z := Z) (by omega) k1 k2 k3 k9 2 (.slice (some ⟨IN, 0, none⟩) N N)
          refine ⟨Z, F, FL, IS, IN, LV, base, ob, ocap, Lv, Fl, vo, vq, qq, rfl, hidb ⟨hM2, HS.out, hvo, ((hOr.put k8.symm _ _).put k8.symm _ _).put k8.symm _ _, ((HT.out.skip k6 _ _).skip k6 _ _).skip k6 _ _, At.fill3 (AZ.out.has rfl) _ _ _, ((HR3.out.set _ _ _).set _ _ _).set _ _ _, (by rw [← HCS.out.1]; exact ((AS.out.skip k4 _ _).skip k4 _ _).skip k4 _ _), (by rw [← HCS.out.2]; exact ((AN.out.skip k5 _ _).skip k5 _ _).skip k5 _ _), ⟨k1, k2, k3, k4, k5, k6, k7, k8, k9⟩, nI⟩⟩
      · skip
        go_simp
        refine hK.out _ _ ?_ (fun hHeld => ?_)
        · (try dsimp only); exact HT.out.alloc _
        clear hK K
        have szV28 : Hid ((V17.alloc (.cells #[.pointer none, .slice none 0 0, .slice none 0 0] 49)).heap.size = V17.heap.size + 1) := by show _ = _; simp
        have AZ := hidb (At.new3 V17 (.pointer none) (.slice none 0 0) (.slice none 0 0) 49)
        obtain ⟨Z, hZ⟩ : ∃ z, z = V17.heap.size := ⟨_, rfl⟩
        rw [← hZ] at AZ ⊢
        replace hZ := hidb hZ
        replace HT := hidb (HT.out.alloc (.cells #[.pointer none, .slice none 0 0, .slice none 0 0] 49))
        replace HR3 := hidb (HR3.out.alloc (.cells #[.pointer none, .slice none 0 0, .slice none 0 0] 49))
        replace HG := hidb (HG.out.alloc (.cells #[.pointer none, .slice none 0 0, .slice none 0 0] 49))
        replace AS := hidb (AS.out.alloc (.cells #[.pointer none, .slice none 0 0, .slice none 0 0] 49))
        generalize V17.alloc (.cells #[.pointer none, .slice none 0 0, .slice none 0 0] 49) = V28 at *
        refine wpAnyH_ready (rs := [1, 9]) (by kernel_rfl) (by simp) ?_
        refine AllReadyH.cons rfl (fun K hK => ?_) (AllReadyH.cons rfl (fun K hK => ?_) AllReadyH.nil)
        · skip
          go_simp
          go_wp2_with (go_at_call 28; refine (HF.out _ HG.out).mono ?_; rintro e V29 ⟨F, base, LV, FL, Lv, Fl, vo, vq, qq, rfl, hM, hS⟩)
          refine hK.out _ _ ?_ (fun hHeld => ?_)
          · (try dsimp only); exact At.below hM.gr.out HT.out
          clear hK K
          have hbl := hM.gr.out
          replace HT := hidb (At.below hbl HT.out)
          replace HR3 := hidb (Has.below hbl HR3.out)
          have HB := hidb (show (V28.heap.size ≤ F ∧ V28.heap.size ≤ LV ∧ V28.heap.size ≤ FL) ∧ (F < base ∧ LV < base ∧ FL < base) ∧ base ≤ V29.heap.size ∧ V28.heap.size ≤ base from hM.b1)
          have lAS := hidb (AS.out.lt)
          replace AS := hidb (At.below hbl AS.out)
          have lAZ := hidb (AZ.out.lt)
          replace AZ := hidb (At.below hbl AZ.out)
          obtain ⟨ob, ocap, hvo, hOr⟩ := own_rs2 hM.ro (by rw [List.length_map]; exact HOl.out.2)
          have HOb := hidb (show base ≤ ob ∧ ob < V29.heap.size from ⟨(hM.ro.lt ob (by rw [hvo]; rfl)).1, hOr.lt⟩)
          have HVo := hidb hvo
          have HOr := hidb hOr
          clear hvo hOr
          have HM := hidb (FM.rebase HG.out hM)
          have HS := hidb hS
          replace HG := hidb (Gr.step HG.out hbl)
          clear hM hS hbl
          have HWc := hidb (Gr.refl V29)
          have HMc := hidb HM.out
          refine wpAnyH_ready (rs := [9]) (by kernel_rfl) (by simp) ?_
          refine AllReadyH.cons rfl (fun K hK => ?_) AllReadyH.nil
          go_simp
          refine hK.out _ _ ?_ (fun hHeld => ?_)
          · (try dsimp only); exact HT.out.alloc _
          clear hK K
          have szV30 : Hid ((V29.alloc (.cells CI 3)).heap.size = V29.heap.size + 1) := by show _ = _; simp
          have AN := hidb (At.newArr V29 CI 3)
          obtain ⟨IN, hIN⟩ : ∃ z, z = V29.heap.size := ⟨_, rfl⟩
          rw [← hIN] at AN ⊢
          replace hIN := hidb hIN
          replace HT := hidb (HT.out.alloc (.cells CI 3))
          replace HR3 := hidb (HR3.out.alloc (.cells CI 3))
          replace HG := hidb (HG.out.alloc (.cells CI 3))
          replace AS := hidb (AS.out.alloc (.cells CI 3))
          replace AZ := hidb (AZ.out.alloc (.cells CI 3))
          replace HM := hidb (HM.out.alloc (.cells CI 3))
          replace HOr := hidb (HOr.out.below ((Gr.refl _).alloc (.cells CI 3)).out)
          replace HWc := hidb (HWc.out.alloc (.cells CI 3))
          generalize V29.alloc (.cells CI 3) = V30 at *
          refine wpAnyH_take (i := 10) (v := ?vg10x993) rfl (by kernel_rfl) (by kernel_rfl) (by kernel_rfl) (fun _ _ _ h => h) (Or.inl ⟨by kernel_rfl, ?hg10x993⟩) (by assumption) ?rg10x993
          case hg10x993 => (intro w hSw; (try dsimp only at hSw); obtain ⟨x0, x1, x2⟩ := hSw.c3; go_simp; try with_reducible rfl)
          (try simp only [Act.put, List.getElem_toArray, List.getElem_cons_zero, List.getElem_cons_succ, List.setIfInBounds_toArray, List.set_cons_zero, List.set_cons_succ])
          refine wpAnyH_ready (rs := [12]) (by kernel_rfl) (by simp) ?_
          refine AllReadyH.cons rfl (fun K hK => ?_) AllReadyH.nil
          have NZT : Hid (¬ Z = T) := by
            show ¬ _
            have n1 := hZ.out; have n2 := hIS.out; have n3 := hIN.out; have n4 := HTR.out; have n5 := HS0.out; have n6 := HB.out; have n7 := HOb.out
            (try have mV30 := szV30.out)
            (try have mV29 := szV29.out)
            (try have mV28 := szV28.out)
            (try have mV17 := szV17.out)
            omega
          obtain ⟨z0, z1, z2⟩ := AZ.out.c3
          obtain ⟨y0, y1, y2⟩ := AZ.out.f3
          go_simp
          refine hK.out _ _ ?_ (fun hHeld => ?_)
          · (try dsimp only); exact ((HT.out.skip NZT.out _ _).skip NZT.out _ _).skip NZT.out _ _
          clear hK K
          refine wpAnyH_done (by kernel_rfl) ?_ _
          go_wp2_with fail
          go_meet
          have n1 := hZ.out; have n2 := hIS.out; have n3 := hIN.out; have n4 := HTR.out; have n5 := HS0.out; have n6 := HB.out; have n7 := HOb.out
          (try have mV30 := szV30.out)
          (try have mV29 := szV29.out)
          (try have mV28 := szV28.out)
          (try have mV17 := szV17.out)
          (try have m1 := lAS.out)
          (try have m2 := lAN.out)
          (try have m3 := lAZ.out)
          have l1 := AS.out.lt; have l2 := AN.out.lt; have l3 := AZ.out.lt
          have hOr := HOr.out; have hvo := HVo.out
          have nZ : Z ≠ F ∧ Z ≠ LV ∧ Z ≠ FL ∧ Z ≠ IS ∧ Z ≠ IN ∧ Z ≠ T ∧ Z ≠ R ∧ Z ≠ ob ∧ w.heap.size ≤ Z := by refine ⟨?_, ?_, ?_, ?_, ?_, ?_, ?_, ?_, ?_⟩ <;> omega
          obtain ⟨k1, k2, k3, k4, k5, k6, k7, k8, k9⟩ := nZ
          have nI : IS ≠ IN ∧ IS ≠ F ∧ IS ≠ FL ∧ IS ≠ ob ∧ IS ≠ T ∧ IN ≠ F ∧ IN ≠ FL ∧ IN ≠ ob ∧ IN ≠ T ∧ IS ≠ R ∧ IN ≠ R ∧ F ≠ R ∧ FL ≠ R ∧ ob ≠ R ∧ w.heap.size ≤ IS ∧ w.heap.size ≤ IN ∧ w.heap.size ≤ R := by refine ⟨?_, ?_, ?_, ?_, ?_, ?_, ?_, ?_, ?_, ?_, ?_, ?_, ?_, ?_, ?_, ?_, ?_⟩ <;> omega
          have hM2 := ((HM.out.skip (Z := Z) (by omega) k1 k2 k3 k9 0 (.pointer (some ⟨F, 0, none⟩))).skip (Z := Z) (by omega) k1 k2 k3 k9 1 (.slice (some ⟨IS, 0, none⟩) N N)).skip (Z := Z) (by omega) k1 k2 k3 k9 2 (.slice (some ⟨IN, 0, none⟩) N N)
          refine ⟨Z, F, FL, IS, IN, LV, base, ob, ocap, Lv, Fl, vo, vq, qq, rfl, hidb ⟨hM2, HS.out, hvo, ((hOr.put k8.symm _ _).put k8.symm _ _).put k8.symm _ _, ((HT.out.skip k6 _ _).skip k6 _ _).skip k6 _ _, At.fill3 (AZ.out.has rfl) _ _ _, ((HR3.out.set _ _ _).set _ _ _).set _ _ _, (by rw [← HCS.out.1]; exact ((AS.out.skip k4 _ _).skip k4 _ _).skip k4 _ _), (by rw [← HCS.out.2]; exact ((AN.out.skip k5 _ _).skip k5 _ _).skip k5 _ _), ⟨k1, k2, k3, k4, k5, k6, k7, k8, k9⟩, nI⟩⟩
        · skip
          go_simp
          refine hK.out _ _ ?_ (fun hHeld => ?_)
          · (try dsimp only); exact HT.out.alloc _
          clear hK K
          have szV31 : Hid ((V28.alloc (.cells CI 3)).heap.size = V28.heap.size + 1) := by show _ = _; simp
          have AN := hidb (At.newArr V28 CI 3)
          obtain ⟨IN, hIN⟩ : ∃ z, z = V28.heap.size := ⟨_, rfl⟩
          rw [← hIN] at AN ⊢
          replace hIN := hidb hIN
          replace HT := hidb (HT.out.alloc (.cells CI 3))
          replace HR3 := hidb (HR3.out.alloc (.cells CI 3))
          replace HG := hidb (HG.out.alloc (.cells CI 3))
          replace AS := hidb (AS.out.alloc (.cells CI 3))
          replace AZ := hidb (AZ.out.alloc (.cells CI 3))
          generalize V28.alloc (.cells CI 3) = V31 at *
          refine wpAnyH_ready (rs := [1]) (by kernel_rfl) (by simp) ?_
          refine AllReadyH.cons rfl (fun K hK => ?_) AllReadyH.nil
          go_simp
          go_wp2_with (go_at_call 28; refine (HF.out _ HG.out).mono ?_; rintro e V32 ⟨F, base, LV, FL, Lv, Fl, vo, vq, qq, rfl, hM, hS⟩)
          refine hK.out _ _ ?_ (fun hHeld => ?_)
          · (try dsimp only); exact At.below hM.gr.out HT.out
          clear hK K
          have hbl := hM.gr.out
          replace HT := hidb (At.below hbl HT.out)
          replace HR3 := hidb (Has.below hbl HR3.out)
          have HB := hidb (show (V31.heap.size ≤ F ∧ V31.heap.size ≤ LV ∧ V31.heap.size ≤ FL) ∧ (F < base ∧ LV < base ∧ FL < base) ∧ base ≤ V32.heap.size ∧ V31.heap.size ≤ base from hM.b1)
          have lAS := hidb (AS.out.lt)
          replace AS := hidb (At.below hbl AS.out)
          have lAN := hidb (AN.out.lt)
          replace AN := hidb (At.below hbl AN.out)
          have lAZ := hidb (AZ.out.lt)
          replace AZ := hidb (At.below hbl AZ.out)
          obtain ⟨ob, ocap, hvo, hOr⟩ := own_rs2 hM.ro (by rw [List.length_map]; exact HOl.out.2)
          have HOb := hidb (show base ≤ ob ∧ ob < V32.heap.size from ⟨(hM.ro.lt ob (by rw [hvo]; rfl)).1, hOr.lt⟩)
          have HVo := hidb hvo
          have HOr := hidb hOr
          clear hvo hOr
          have HM := hidb (FM.rebase HG.out hM)
          have HS := hidb hS
          replace HG := hidb (Gr.step HG.out hbl)
          clear hM hS hbl
          have HWc := hidb (Gr.refl V32)
          have HMc := hidb HM.out
          refine wpAnyH_take (i := 10) (v := ?vg10x1074) rfl (by kernel_rfl) (by kernel_rfl) (by kernel_rfl) (fun _ _ _ h => h) (Or.inl ⟨by kernel_rfl, ?hg10x1074⟩) (by assumption) ?rg10x1074
          case hg10x1074 => (intro w hSw; (try dsimp only at hSw); obtain ⟨x0, x1, x2⟩ := hSw.c3; go_simp; try with_reducible rfl)
          (try simp only [Act.put, List.getElem_toArray, List.getElem_cons_zero, List.getElem_cons_succ, List.setIfInBounds_toArray, List.set_cons_zero, List.set_cons_succ])
          refine wpAnyH_ready (rs := [12]) (by kernel_rfl) (by simp) ?_
          refine AllReadyH.cons rfl (fun K hK => ?_) AllReadyH.nil
          have NZT : Hid (¬ Z = T) := by
            show ¬ _
            have n1 := hZ.out; have n2 := hIS.out; have n3 := hIN.out; have n4 := HTR.out; have n5 := HS0.out; have n6 := HB.out; have n7 := HOb.out
            (try have mV32 := szV32.out)
            (try have mV31 := szV31.out)
            (try have mV28 := szV28.out)
            (try have mV17 := szV17.out)
            omega
          obtain ⟨z0, z1, z2⟩ := AZ.out.c3
          obtain ⟨y0, y1, y2⟩ := AZ.out.f3
          go_simp
          refine hK.out _ _ ?_ (fun hHeld => ?_)
          · (try dsimp only); exact ((HT.out.skip NZT.out _ _).skip NZT.out _ _).skip NZT.out _ _
          clear hK K
          refine wpAnyH_done (by kernel_rfl) ?_ _
          go_wp2_with fail
          go_meet
          have n1 := hZ.out; have n2 := hIS.out; have n3 := hIN.out; have n4 := HTR.out; have n5 := HS0.out; have n6 := HB.out; have n7 := HOb.out
          (try have mV32 := szV32.out)
          (try have mV31 := szV31.out)
          (try have mV28 := szV28.out)
          (try have mV17 := szV17.out)
          (try have m1 := lAS.out)
          (try have m2 := lAN.out)
          (try have m3 := lAZ.out)
          have l1 := AS.out.lt; have l2 := AN.out.lt; have l3 := AZ.out.lt
          have hOr := HOr.out; have hvo := HVo.out
          have nZ : Z ≠ F ∧ Z ≠ LV ∧ Z ≠ FL ∧ Z ≠ IS ∧ Z ≠ IN ∧ Z ≠ T ∧ Z ≠ R ∧ Z ≠ ob ∧ w.heap.size ≤ Z := by refine ⟨?_, ?_, ?_, ?_, ?_, ?_, ?_, ?_, ?_⟩ <;> omega
          obtain ⟨k1, k2, k3, k4, k5, k6, k7, k8, k9⟩ := nZ
          have nI : IS ≠ IN ∧ IS ≠ F ∧ IS ≠ FL ∧ IS ≠ ob ∧ IS ≠ T ∧ IN ≠ F ∧ IN ≠ FL ∧ IN ≠ ob ∧ IN ≠ T ∧ IS ≠ R ∧ IN ≠ R ∧ F ≠ R ∧ FL ≠ R ∧ ob ≠ R ∧ w.heap.size ≤ IS ∧ w.heap.size ≤ IN ∧ w.heap.size ≤ R := by refine ⟨?_, ?_, ?_, ?_, ?_, ?_, ?_, ?_, ?_, ?_, ?_, ?_, ?_, ?_, ?_, ?_, ?_⟩ <;> omega
          have hM2 := ((HM.out.skip (Z := Z) (by omega) k1 k2 k3 k9 0 (.pointer (some ⟨F, 0, none⟩))).skip (Z := Z) (by omega) k1 k2 k3 k9 1 (.slice (some ⟨IS, 0, none⟩) N N)).skip (Z := Z) (by omega) k1 k2 k3 k9 2 (.slice (some ⟨IN, 0, none⟩) N N)
          refine ⟨Z, F, FL, IS, IN, LV, base, ob, ocap, Lv, Fl, vo, vq, qq, rfl, hidb ⟨hM2, HS.out, hvo, ((hOr.put k8.symm _ _).put k8.symm _ _).put k8.symm _ _, ((HT.out.skip k6 _ _).skip k6 _ _).skip k6 _ _, At.fill3 (AZ.out.has rfl) _ _ _, ((HR3.out.set _ _ _).set _ _ _).set _ _ _, (by rw [← HCS.out.1]; exact ((AS.out.skip k4 _ _).skip k4 _ _).skip k4 _ _), (by rw [← HCS.out.2]; exact ((AN.out.skip k5 _ _).skip k5 _ _).skip k5 _ _), ⟨k1, k2, k3, k4, k5, k6, k7, k8, k9⟩, nI⟩⟩
    · skip
      go_simp
      refine hK.out _ _ ?_ (fun hHeld => ?_)
      · (try dsimp only); exact HT.out.alloc _
      clear hK K
      have szV33 : Hid ((V0.alloc (.cells CI 3)).heap.size = V0.heap.size + 1) := by show _ = _; simp
      have AN := hidb (At.newArr V0 CI 3)
      obtain ⟨IN, hIN⟩ : ∃ z, z = V0.heap.size := ⟨_, rfl⟩
      rw [← hIN] at AN ⊢
      replace hIN := hidb hIN
      replace HT := hidb (HT.out.alloc (.cells CI 3))
      replace HR3 := hidb (HR3.out.alloc (.cells CI 3))
      replace HG := hidb (HG.out.alloc (.cells CI 3))
      generalize V0.alloc (.cells CI 3) = V33 at *
      refine wpAnyH_ready (rs := [1, 5, 11]) (by kernel_rfl) (by simp) ?_
      refine AllReadyH.cons rfl (fun K hK => ?_) (AllReadyH.cons rfl (fun K hK => ?_) (AllReadyH.cons rfl (fun K hK => ?_) AllReadyH.nil))
      · skip
        go_simp
        go_wp2_with (go_at_call 28; refine (HF.out _ HG.out).mono ?_; rintro e V34 ⟨F, base, LV, FL, Lv, Fl, vo, vq, qq, rfl, hM, hS⟩)
        refine hK.out _ _ ?_ (fun hHeld => ?_)
        · (try dsimp only); exact At.below hM.gr.out HT.out
        clear hK K
        have hbl := hM.gr.out
        replace HT := hidb (At.below hbl HT.out)
        replace HR3 := hidb (Has.below hbl HR3.out)
        have HB := hidb (show (V33.heap.size ≤ F ∧ V33.heap.size ≤ LV ∧ V33.heap.size ≤ FL) ∧ (F < base ∧ LV < base ∧ FL < base) ∧ base ≤ V34.heap.size ∧ V33.heap.size ≤ base from hM.b1)
        have lAN := hidb (AN.out.lt)
        replace AN := hidb (At.below hbl AN.out)
        obtain ⟨ob, ocap, hvo, hOr⟩ := own_rs2 hM.ro (by rw [List.length_map]; exact HOl.out.2)
        have HOb := hidb (show base ≤ ob ∧ ob < V34.heap.size from ⟨(hM.ro.lt ob (by rw [hvo]; rfl)).1, hOr.lt⟩)
        have HVo := hidb hvo
        have HOr := hidb hOr
        clear hvo hOr
        have HM := hidb (FM.rebase HG.out hM)
        have HS := hidb hS
        replace HG := hidb (Gr.step HG.out hbl)
        clear hM hS hbl
        have HWc := hidb (Gr.refl V34)
        have HMc := hidb HM.out
        refine wpAnyH_ready (rs := [5, 11]) (by kernel_rfl) (by simp) ?_
        refine AllReadyH.cons rfl (fun K hK => ?_) (AllReadyH.cons rfl (fun K hK => ?_) AllReadyH.nil)
        · skip
          go_simp
          refine hK.out _ _ ?_ (fun hHeld => ?_)
          · (try dsimp only); exact HT.out.alloc _
          clear hK K
          have szV35 : Hid ((V34.alloc (.cells CB 4)).heap.size = V34.heap.size + 1) := by show _ = _; simp
          have AS := hidb (At.newArr V34 CB 4)
          obtain ⟨IS, hIS⟩ : ∃ z, z = V34.heap.size := ⟨_, rfl⟩
          rw [← hIS] at AS ⊢
          replace hIS := hidb hIS
          replace HT := hidb (HT.out.alloc (.cells CB 4))
          replace HR3 := hidb (HR3.out.alloc (.cells CB 4))
          replace HG := hidb (HG.out.alloc (.cells CB 4))
          replace AN := hidb (AN.out.alloc (.cells CB 4))
          replace HM := hidb (HM.out.alloc (.cells CB 4))
          replace HOr := hidb (HOr.out.below ((Gr.refl _).alloc (.cells CB 4)).out)
          replace HWc := hidb (HWc.out.alloc (.cells CB 4))
          generalize V34.alloc (.cells CB 4) = V35 at *
          refine wpAnyH_take (i := 10) (v := ?vg10x1170) rfl (by kernel_rfl) (by kernel_rfl) (by kernel_rfl) (fun _ _ _ h => h) (Or.inl ⟨by kernel_rfl, ?hg10x1170⟩) (by assumption) ?rg10x1170
          case hg10x1170 => (intro w hSw; (try dsimp only at hSw); obtain ⟨x0, x1, x2⟩ := hSw.c3; go_simp; try with_reducible rfl)
          (try simp only [Act.put, List.getElem_toArray, List.getElem_cons_zero, List.getElem_cons_succ, List.setIfInBounds_toArray, List.set_cons_zero, List.set_cons_succ])
          refine wpAnyH_ready (rs := [11]) (by kernel_rfl) (by simp) ?_
          refine AllReadyH.cons rfl (fun K hK => ?_) AllReadyH.nil
          go_simp
          refine hK.out _ _ ?_ (fun hHeld => ?_)
          · (try dsimp only); exact HT.out.alloc _
          clear hK K
          have szV36 : Hid ((V35.alloc (.cells #[.pointer none, .slice none 0 0, .slice none 0 0] 49)).heap.size = V35.heap.size + 1) := by show _ = _; simp
          have AZ := hidb (At.new3 V35 (.pointer none) (.slice none 0 0) (.slice none 0 0) 49)
          obtain ⟨Z, hZ⟩ : ∃ z, z = V35.heap.size := ⟨_, rfl⟩
          rw [← hZ] at AZ ⊢
          replace hZ := hidb hZ
          replace HT := hidb (HT.out.alloc (.cells #[.pointer none, .slice none 0 0, .slice none 0 0] 49))
          replace HR3 := hidb (HR3.out.alloc (.cells #[.pointer none, .slice none 0 0, .slice none 0 0] 49))
          replace HG := hidb (HG.out.alloc (.cells #[.pointer none, .slice none 0 0, .slice none 0 0] 49))
          replace AS := hidb (AS.out.alloc (.cells #[.pointer none, .slice none 0 0, .slice none 0 0] 49))
          replace AN := hidb (AN.out.alloc (.cells #[.pointer none, .slice none 0 0, .slice none 0 0] 49))
          replace HM := hidb (HM.out.alloc (.cells #[.pointer none, .slice none 0 0, .slice none 0 0] 49))
          replace HOr := hidb (HOr.out.below ((Gr.refl _).alloc (.cells #[.pointer none, .slice none 0 0, .slice none 0 0] 49)).out)
          replace HWc := hidb (HWc.out.alloc (.cells #[.pointer none, .slice none 0 0, .slice none 0 0] 49))
          generalize V35.alloc (.cells #[.pointer none, .slice none 0 0, .slice none 0 0] 49) = V36 at *
          refine wpAnyH_ready (rs := [12]) (by kernel_rfl) (by simp) ?_
          refine AllReadyH.cons rfl (fun K hK => ?_) AllReadyH.nil
          have NZT : Hid (¬ Z = T) := by
            show ¬ _
            have n1 := hZ.out; have n2 := hIS.out; have n3 := hIN.out; have n4 := HTR.out; have n5 := HS0.out; have n6 := HB.out; have n7 := HOb.out
            (try have mV36 := szV36.out)
            (try have mV35 := szV35.out)
            (try have mV34 := szV34.out)
            (try have mV33 := szV33.out)
            omega
          obtain ⟨z0, z1, z2⟩ := AZ.out.c3
          obtain ⟨y0, y1, y2⟩ := AZ.out.f3
          go_simp
          refine hK.out _ _ ?_ (fun hHeld => ?_)
          · (try dsimp only); exact ((HT.out.skip NZT.out _ _).skip NZT.out _ _).skip NZT.out _ _
          clear hK K
          refine wpAnyH_done (by kernel_rfl) ?_ _
          go_wp2_with fail
          go_meet
          have n1 := hZ.out; have n2 := hIS.out; have n3 := hIN.out; have n4 := HTR.out; have n5 := HS0.out; have n6 := HB.out; have n7 := HOb.out
          (try have mV36 := szV36.out)
          (try have mV35 := szV35.out)
          (try have mV34 := szV34.out)
          (try have mV33 := szV33.out)
          (try have m1 := lAS.out)
          (try have m2 := lAN.out)
          (try have m3 := lAZ.out)
          have l1 := AS.out.lt; have l2 := AN.out.lt; have l3 := AZ.out.lt
          have hOr := HOr.out; have hvo := HVo.out
          have nZ : Z ≠ F ∧ Z ≠ LV ∧ Z ≠ FL ∧ Z ≠ IS ∧ Z ≠ IN ∧ Z ≠ T ∧ Z ≠ R ∧ Z ≠ ob ∧ w.heap.size ≤ Z := by refine ⟨?_, ?_, ?_, ?_, ?_, ?_, ?_, ?_, ?_⟩ <;> omega
          obtain ⟨k1, k2, k3, k4, k5, k6, k7, k8, k9⟩ := nZ
          have nI : IS ≠ IN ∧ IS ≠ F ∧ IS ≠ FL ∧ IS ≠ ob ∧ IS ≠ T ∧ IN ≠ F ∧ IN ≠ FL ∧ IN ≠ ob ∧ IN ≠ T ∧ IS ≠ R ∧ IN ≠ R ∧ F ≠ R ∧ FL ≠ R ∧ ob ≠ R ∧ w.heap.size ≤ IS ∧ w.heap.size ≤ IN ∧ w.heap.size ≤ R := by refine ⟨?_, ?_, ?_, ?_, ?_, ?_, ?_, ?_, ?_, ?_, ?_, ?_, ?_, ?_, ?_, ?_, ?_⟩ <;> omega
          have hM2 := HMc.out.skip3 (Z := Z) HWc.out (by omega) (.pointer (some ⟨F, 0, none⟩)) (.slice (some ⟨IS, 0, none⟩) N N) (.slice (some ⟨IN, 0, none⟩) N N)
          refine ⟨Z, F, FL, IS, IN, LV, base, ob, ocap, Lv, Fl, vo, vq, qq, rfl, hidb ⟨hM2, HS.out, hvo, ((hOr.put k8.symm _ _).put k8.symm _ _).put k8.symm _ _, ((HT.out.skip k6 _ _).skip k6 _ _).skip k6 _ _, At.fill3 (AZ.out.has rfl) _ _ _, ((HR3.out.set _ _ _).set _ _ _).set _ _ _, (by rw [← HCS.out.1]; exact ((AS.out.skip k4 _ _).skip k4 _ _).skip k4 _ _), (by rw [← HCS.out.2]; exact ((AN.out.skip k5 _ _).skip k5 _ _).skip k5 _ _), ⟨k1, k2, k3, k4, k5, k6, k7, k8, k9⟩, nI⟩⟩
        · skip
          go_simp
          refine hK.out _ _ ?_ (fun hHeld => ?_)
          · (try dsimp only); exact HT.out.alloc _
          clear hK K
          have szV37 : Hid ((V34.alloc (.cells #[.pointer none, .slice none 0 0, .slice none 0 0] 49)).heap.size = V34.heap.size + 1) := by show _ = _; simp
          have AZ := hidb (At.new3 V34 (.pointer none) (.slice none 0 0) (.slice none 0 0) 49)
          obtain ⟨Z, hZ⟩ : ∃ z, z = V34.heap.size := ⟨_, rfl⟩
          rw [← hZ] at AZ ⊢
          replace hZ := hidb hZ
          replace HT := hidb (HT.out.alloc (.cells #[.pointer none, .slice none 0 0, .slice none 0 0] 49))
          replace HR3 := hidb (HR3.out.alloc (.cells #[.pointer none, .slice none 0 0, .slice none 0 0] 49))
          replace HG := hidb (HG.out.alloc (.cells #[.pointer none, .slice none 0 0, .slice none 0 0] 49))
          replace AN := hidb (AN.out.alloc (.cells #[.pointer none, .slice none 0 0, .slice none 0 0] 49))
          replace HM := hidb (HM.out.alloc (.cells #[.pointer none, .slice none 0 0, .slice none 0 0] 49))
          replace HOr := hidb (HOr.out.below ((Gr.refl _).alloc (.cells #[.pointer none, .slice none 0 0, .slice none 0 0] 49)).out)
          replace HWc := hidb (HWc.out.alloc (.cells #[.pointer none, .slice none 0 0, .slice none 0 0] 49))
          generalize V34.alloc (.cells #[.pointer none, .slice none 0 0, .slice none 0 0] 49) = V37 at *
          refine wpAnyH_ready (rs := [5]) (by kernel_rfl) (by simp) ?_
          refine AllReadyH.cons rfl (fun K hK => ?_) AllReadyH.nil
          go_simp
          refine hK.out _ _ ?_ (fun hHeld => ?_)
          · (try dsimp only); exact HT.out.alloc _
          clear hK K
          have szV38 : Hid ((V37.alloc (.cells CB 4)).heap.size = V37.heap.size + 1) := by show _ = _; simp
          have AS := hidb (At.newArr V37 CB 4)
          obtain ⟨IS, hIS⟩ : ∃ z, z = V37.heap.size := ⟨_, rfl⟩
          rw [← hIS] at AS ⊢
          replace hIS := hidb hIS
          replace HT := hidb (HT.out.alloc (.cells CB 4))
          replace HR3 := hidb (HR3.out.alloc (.cells CB 4))
          replace HG := hidb (HG.out.alloc (.cells CB 4))
          replace AN := hidb (AN.out.alloc (.cells CB 4))
          replace AZ := hidb (AZ.out.alloc (.cells CB 4))
          replace HM := hidb (HM.out.alloc (.cells CB 4))
          replace HOr := hidb (HOr.out.below ((Gr.refl _).alloc (.cells CB 4)).out)
          replace HWc := hidb (HWc.out.alloc (.cells CB 4))
          generalize V37.alloc (.cells CB 4) = V38 at *
          refine wpAnyH_take (i := 10) (v := ?vg10x1265) rfl (by kernel_rfl) (by kernel_rfl) (by kernel_rfl) (fun _ _ _ h => h) (Or.inl ⟨by kernel_rfl, ?hg10x1265⟩) (by assumption) ?rg10x1265
          case hg10x1265 => (intro w hSw; (try dsimp only at hSw); obtain ⟨x0, x1, x2⟩ := hSw.c3; go_simp; try with_reducible rfl)
          (try simp only [Act.put, List.getElem_toArray, List.getElem_cons_zero, List.getElem_cons_succ, List.setIfInBounds_toArray, List.set_cons_zero, List.set_cons_succ])
          refine wpAnyH_ready (rs := [12]) (by kernel_rfl) (by simp) ?_
          refine AllReadyH.cons rfl (fun K hK => ?_) AllReadyH.nil
          have NZT : Hid (¬ Z = T) := by
            show ¬ _
            have n1 := hZ.out; have n2 := hIS.out; have n3 := hIN.out; have n4 := HTR.out; have n5 := HS0.out; have n6 := HB.out; have n7 := HOb.out
            (try have mV38 := szV38.out)
            (try have mV37 := szV37.out)
            (try have mV34 := szV34.out)
            (try have mV33 := szV33.out)
            omega
          obtain ⟨z0, z1, z2⟩ := AZ.out.c3
          obtain ⟨y0, y1, y2⟩ := AZ.out.f3
          go_simp
          refine hK.out _ _ ?_ (fun hHeld => ?_)
          · (try dsimp only); exact ((HT.out.skip NZT.out _ _).skip NZT.out _ _).skip NZT.out _ _
          clear hK K
          refine wpAnyH_done (by kernel_rfl) ?_ _
          go_wp2_with fail
          go_meet
          have n1 := hZ.out; have n2 := hIS.out; have n3 := hIN.out; have n4 := HTR.out; have n5 := HS0.out; have n6 := HB.out; have n7 := HOb.out
          (try have mV38 := szV38.out)
          (try have mV37 := szV37.out)
          (try have mV34 := szV34.out)
          (try have mV33 := szV33.out)
          (try have m1 := lAS.out)
          (try have m2 := lAN.out)
          (try have m3 := lAZ.out)
          have l1 := AS.out.lt; have l2 := AN.out.lt; have l3 := AZ.out.lt
          have hOr := HOr.out; have hvo := HVo.out
          have nZ : Z ≠ F ∧ Z ≠ LV ∧ Z ≠ FL ∧ Z ≠ IS ∧ Z ≠ IN ∧ Z ≠ T ∧ Z ≠ R ∧ Z ≠ ob ∧ w.heap.size ≤ Z := by refine ⟨?_, ?_, ?_, ?_, ?_, ?_, ?_, ?_, ?_⟩ <;> omega
          obtain ⟨k1, k2, k3, k4, k5, k6, k7, k8, k9⟩ := nZ
          have nI : IS ≠ IN ∧ IS ≠ F ∧ IS ≠ FL ∧ IS ≠ ob ∧ IS ≠ T ∧ IN ≠ F ∧ IN ≠ FL ∧ IN ≠ ob ∧ IN ≠ T ∧ IS ≠ R ∧ IN ≠ R ∧ F ≠ R ∧ FL ≠ R ∧ ob ≠ R ∧ w.heap.size ≤ IS ∧ w.heap.size ≤ IN ∧ w.heap.size ≤ R := by refine ⟨?_, ?_, ?_, ?_, ?_, ?_, ?_, ?_, ?_, ?_, ?_, ?_, ?_, ?_, ?_, ?_, ?_⟩ <;> omega
          have hM2 := HMc.out.skip3 (Z := Z) HWc.out (by omega) (.pointer (some ⟨F, 0, none⟩)) (.slice (some ⟨IS, 0, none⟩) N N) (.slice (some ⟨IN, 0, none⟩) N N)
          refine ⟨Z, F, FL, IS, IN, LV, base, ob, ocap, Lv, Fl, vo, vq, qq, rfl, hidb ⟨hM2, HS.out, hvo, ((hOr.put k8.symm _ _).put k8.symm _ _).put k8.symm _ _, ((HT.out.skip k6 _ _).skip k6 _ _).skip k6 _ _, At.fill3 (AZ.out.has rfl) _ _ _, ((HR3.out.set _ _ _).set _ _ _).set _ _ _, (by rw [← HCS.out.1]; exact ((AS.out.skip k4 _ _).skip k4 _ _).skip k4 _ _), (by rw [← HCS.out.2]; exact ((AN.out.skip k5 _ _).skip k5 _ _).skip k5 _ _), ⟨k1, k2, k3, k4, k5, k6, k7, k8, k9⟩, nI⟩⟩
      · skip
        go_simp
        refine hK.out _ _ ?_ (fun hHeld => ?_)
        · (try dsimp only); exact HT.out.alloc _
        clear hK K
        have szV39 : Hid ((V33.alloc (.cells CB 4)).heap.size = V33.heap.size + 1) := by show _ = _; simp
        have AS := hidb (At.newArr V33 CB 4)
        obtain ⟨IS, hIS⟩ : ∃ z, z = V33.heap.size := ⟨_, rfl⟩
        rw [← hIS] at AS ⊢
        replace hIS := hidb hIS
        replace HT := hidb (HT.out.alloc (.cells CB 4))
        replace HR3 := hidb (HR3.out.alloc (.cells CB 4))
        replace HG := hidb (HG.out.alloc (.cells CB 4))
        replace AN := hidb (AN.out.alloc (.cells CB 4))
        generalize V33.alloc (.cells CB 4) = V39 at *
        refine wpAnyH_ready (rs := [1, 11]) (by kernel_rfl) (by simp) ?_
        refine AllReadyH.cons rfl (fun K hK => ?_) (AllReadyH.cons rfl (fun K hK => ?_) AllReadyH.nil)
        · skip
          go_simp
          go_wp2_with (go_at_call 28; refine (HF.out _ HG.out).mono ?_; rintro e V40 ⟨F, base, LV, FL, Lv, Fl, vo, vq, qq, rfl, hM, hS⟩)
          refine hK.out _ _ ?_ (fun hHeld => ?_)
          · (try dsimp only); exact At.below hM.gr.out HT.out
          clear hK K
          have hbl := hM.gr.out
          replace HT := hidb (At.below hbl HT.out)
          replace HR3 := hidb (Has.below hbl HR3.out)
          have HB := hidb (show (V39.heap.size ≤ F ∧ V39.heap.size ≤ LV ∧ V39.heap.size ≤ FL) ∧ (F < base ∧ LV < base ∧ FL < base) ∧ base ≤ V40.heap.size ∧ V39.heap.size ≤ base from hM.b1)
          have lAS := hidb (AS.out.lt)
          replace AS := hidb (At.below hbl AS.out)
          have lAN := hidb (AN.out.lt)
          replace AN := hidb (At.below hbl AN.out)
          obtain ⟨ob, ocap, hvo, hOr⟩ := own_rs2 hM.ro (by rw [List.length_map]; exact HOl.out.2)
          have HOb := hidb (show base ≤ ob ∧ ob < V40.heap.size from ⟨(hM.ro.lt ob (by rw [hvo]; rfl)).1, hOr.lt⟩)
          have HVo := hidb hvo
          have HOr := hidb hOr
          clear hvo hOr
          have HM := hidb (FM.rebase HG.out hM)
          have HS := hidb hS
          replace HG := hidb (Gr.step HG.out hbl)
          clear hM hS hbl
          have HWc := hidb (Gr.refl V40)
          have HMc := hidb HM.out
          refine wpAnyH_take (i := 10) (v := ?vg10x1344) rfl (by kernel_rfl) (by kernel_rfl) (by kernel_rfl) (fun _ _ _ h => h) (Or.inl ⟨by kernel_rfl, ?hg10x1344⟩) (by assumption) ?rg10x1344
          case hg10x1344 => (intro w hSw; (try dsimp only at hSw); obtain ⟨x0, x1, x2⟩ := hSw.c3; go_simp; try with_reducible rfl)
          (try simp only [Act.put, List.getElem_toArray, List.getElem_cons_zero, List.getElem_cons_succ, List.setIfInBounds_toArray, List.set_cons_zero, List.set_cons_succ])
          refine wpAnyH_ready (rs := [11]) (by kernel_rfl) (by simp) ?_
          refine AllReadyH.cons rfl (fun K hK => ?_) AllReadyH.nil
          go_simp
          refine hK.out _ _ ?_ (fun hHeld => ?_)
          · (try dsimp only); exact HT.out.alloc _
          clear hK K
          have szV41 : Hid ((V40.alloc (.cells #[.pointer none, .slice none 0 0, .slice none 0 0] 49)).heap.size = V40.heap.size + 1) := by show _ = _; simp
          have AZ := hidb (At.new3 V40 (.pointer none) (.slice none 0 0) (.slice none 0 0) 49)
          obtain ⟨Z, hZ⟩ : ∃ z, z = V40.heap.size := ⟨_, rfl⟩
          rw [← hZ] at AZ ⊢
          replace hZ := hidb hZ
          replace HT := hidb (HT.out.alloc (.cells #[.pointer none, .slice none 0 0, .slice none 0 0] 49))
          replace HR3 := hidb (HR3.out.alloc (.cells #[.pointer none, .slice none 0 0, .slice none 0 0] 49))
          replace HG := hidb (HG.out.alloc (.cells #[.pointer none, .slice none 0 0, .slice none 0 0] 49))
          replace AS := hidb (AS.out.alloc (.cells #[.pointer none, .slice none 0 0, .slice none 0 0] 49))
          replace AN := hidb (AN.out.alloc (.cells #[.pointer none, .slice none 0 0, .slice none 0 0] 49))
          replace HM := hidb (HM.out.alloc (.cells #[.pointer none, .slice none 0 0, .slice none 0 0] 49))
          replace HOr := hidb (HOr.out.below ((Gr.refl _).alloc (.cells #[.pointer none, .slice none 0 0, .slice none 0 0] 49)).out)
          replace HWc := hidb (HWc.out.alloc (.cells #[.pointer none, .slice none 0 0, .slice none 0 0] 49))
          generalize V40.alloc (.cells #[.pointer none, .slice none 0 0, .slice none 0 0] 49) = V41 at *
          refine wpAnyH_ready (rs := [12]) (by kernel_rfl) (by simp) ?_
          refine AllReadyH.cons rfl (fun K hK => ?_) AllReadyH.nil
          have NZT : Hid (¬ Z = T) := by
            show ¬ _
            have n1 := hZ.out; have n2 := hIS.out; have n3 := hIN.out; have n4 := HTR.out; have n5 := HS0.out; have n6 := HB.out; have n7 := HOb.out
            (try have mV41 := szV41.out)
            (try have mV40 := szV40.out)
            (try have mV39 := szV39.out)
            (try have mV33 := szV33.out)
            omega
          obtain ⟨z0, z1, z2⟩ := AZ.out.c3
          obtain ⟨y0, y1, y2⟩ := AZ.out.f3
          go_simp
          refine hK.out _ _ ?_ (fun hHeld => ?_)
          · (try dsimp only); exact ((HT.out.skip NZT.out _ _).skip NZT.out _ _).skip NZT.out _ _
          clear hK K
          refine wpAnyH_done (by kernel_rfl) ?_ _
          go_wp2_with fail
          go_meet
          have n1 := hZ.out; have n2 := hIS.out; have n3 := hIN.out; have n4 := HTR.out; have n5 := HS0.out; have n6 := HB.out; have n7 := HOb.out
          (try have mV41 := szV41.out)
          (try have mV40 := szV40.out)
          (try have mV39 := szV39.out)
          (try have mV33 := szV33.out)
          (try have m1 := lAS.out)
          (try have m2 := lAN.out)
          (try have m3 := lAZ.out)
          have l1 := AS.out.lt; have l2 := AN.out.lt; have l3 := AZ.out.lt
          have hOr := HOr.out; have hvo := HVo.out
          have nZ : Z ≠ F ∧ Z ≠ LV ∧ Z ≠ FL ∧ Z ≠ IS ∧ Z ≠ IN ∧ Z ≠ T ∧ Z ≠ R ∧ Z ≠ ob ∧ w.heap.size ≤ Z := by refine ⟨?_, ?_, ?_, ?_, ?_, ?_, ?_, ?_, ?_⟩ <;> omega
          obtain ⟨k1, k2, k3, k4, k5, k6, k7, k8, k9⟩ := nZ
          have nI : IS ≠ IN ∧ IS ≠ F ∧ IS ≠ FL ∧ IS ≠ ob ∧ IS ≠ T ∧ IN ≠ F ∧ IN ≠ FL ∧ IN ≠ ob ∧ IN ≠ T ∧ IS ≠ R ∧ IN ≠ R ∧ F ≠ R ∧ FL ≠ R ∧ ob ≠ R ∧ w.heap.size ≤ IS ∧ w.heap.size ≤ IN ∧ w.heap.size ≤ R := by refine ⟨?_, ?_, ?_, ?_, ?_, ?_, ?_, ?_, ?_, ?_, ?_, ?_, ?_, ?_, ?_, ?_, ?_⟩ <;> omega
          have hM2 := HMc.out.skip3 (Z := Z) HWc.out (by omega) (.pointer (some ⟨F, 0, none⟩)) (.slice (some ⟨IS, 0, none⟩) N N) (.slice (some ⟨IN, 0, none⟩) N N)
          refine ⟨Z, F, FL, IS, IN, LV, base, ob, ocap, Lv, Fl, vo, vq, qq, rfl, hidb ⟨hM2, HS.out, hvo, ((hOr.put k8.symm _ _).put k8.symm _ _).put k8.symm _ _, ((HT.out.skip k6 _ _).skip k6 _ _).skip k6 _ _, At.fill3 (AZ.out.has rfl) _ _ _, ((HR3.out.set _ _ _).set _ _ _).set _ _ _, (by rw [← HCS.out.1]; exact ((AS.out.skip k4 _ _).skip k4 _ _).skip k4 _ _), (by rw [← HCS.out.2]; exact ((AN.out.skip k5 _ _).skip k5 _ _).skip k5 _ _), ⟨k1, k2, k3, k4, k5, k6, k7, k8, k9⟩, nI⟩⟩
        · skip
          go_simp
          refine hK.out _ _ ?_ (fun hHeld => ?_)
          · (try dsimp only); exact HT.out.alloc _
          clear hK K
          have szV42 : Hid ((V39.alloc (.cells #[.pointer none, .slice none 0 0, .slice none 0 0] 49)).heap.size = V39.heap.size + 1) := by show _ = _; simp
          have AZ := hidb (At.new3 V39 (.pointer none) (.slice none 0 0) (.slice none 0 0) 49)
          obtain ⟨Z, hZ⟩ : ∃ z, z = V39.heap.size := ⟨_, rfl⟩
          rw [← hZ] at AZ ⊢
          replace hZ := hidb hZ
          replace HT := hidb (HT.out.alloc (.cells #[.pointer none, .slice none 0 0, .slice none 0 0] 49))
          replace HR3 := hidb (HR3.out.alloc (.cells #[.pointer none, .slice none 0 0, .slice none 0 0] 49))
          replace HG := hidb (HG.out.alloc (.cells #[.pointer none, .slice none 0 0, .slice none 0 0] 49))
          replace AS := hidb (AS.out.alloc (.cells #[.pointer none, .slice none 0 0, .slice none 0 0] 49))
          replace AN := hidb (AN.out.alloc (.cells #[.pointer none, .slice none 0 0, .slice none 0 0] 49))
          generalize V39.alloc (.cells #[.pointer none, .slice none 0 0, .slice none 0 0] 49) = V42 at *
          refine wpAnyH_ready (rs := [1]) (by kernel_rfl) (by simp) ?_
          refine AllReadyH.cons rfl (fun K hK => ?_) AllReadyH.nil
          go_simp
          go_wp2_with (go_at_call 28; refine (HF.out _ HG.out).mono ?_; rintro e V43 ⟨F, base, LV, FL, Lv, Fl, vo, vq, qq, rfl, hM, hS⟩)
          refine hK.out _ _ ?_ (fun hHeld => ?_)
          · (try dsimp only); exact At.below hM.gr.out HT.out
          clear hK K
          have hbl := hM.gr.out
          replace HT := hidb (At.below hbl HT.out)
          replace HR3 := hidb (Has.below hbl HR3.out)
          have HB := hidb (show (V42.heap.size ≤ F ∧ V42.heap.size ≤ LV ∧ V42.heap.size ≤ FL) ∧ (F < base ∧ LV < base ∧ FL < base) ∧ base ≤ V43.heap.size ∧ V42.heap.size ≤ base from hM.b1)
          have lAS := hidb (AS.out.lt)
          replace AS := hidb (At.below hbl AS.out)
          have lAN := hidb (AN.out.lt)
          replace AN := hidb (At.below hbl AN.out)
          have lAZ := hidb (AZ.out.lt)
          replace AZ := hidb (At.below hbl AZ.out)
          obtain ⟨ob, ocap, hvo, hOr⟩ := own_rs2 hM.ro (by rw [List.length_map]; exact HOl.out.2)
          have HOb := hidb (show base ≤ ob ∧ ob < V43.heap.size from ⟨(hM.ro.lt ob (by rw [hvo]; rfl)).1, hOr.lt⟩)
          have HVo := hidb hvo
          have HOr := hidb hOr
          clear hvo hOr
          have HM := hidb (FM.rebase HG.out hM)
          have HS := hidb hS
          replace HG := hidb (Gr.step HG.out hbl)
          clear hM hS hbl
          have HWc := hidb (Gr.refl V43)
          have HMc := hidb HM.out
          refine wpAnyH_take (i := 10) (v := ?vg10x1445) rfl (by kernel_rfl) (by kernel_rfl) (by kernel_rfl) (fun _ _ _ h => h) (Or.inl ⟨by kernel_rfl, ?hg10x1445⟩) (by assumption) ?rg10x1445
          case hg10x1445 => (intro w hSw; (try dsimp only at hSw); obtain ⟨x0, x1, x2⟩ := hSw.c3; go_simp; try with_reducible rfl)
          (try simp only [Act.put, List.getElem_toArray, List.getElem_cons_zero, List.getElem_cons_succ, List.setIfInBounds_toArray, List.set_cons_zero, List.set_cons_succ])
          refine wpAnyH_ready (rs := [12]) (by kernel_rfl) (by simp) ?_
          refine AllReadyH.cons rfl (fun K hK => ?_) AllReadyH.nil
          have NZT : Hid (¬ Z = T) := by
            show ¬ _
            have n1 := hZ.out; have n2 := hIS.out; have n3 := hIN.out; have n4 := HTR.out; have n5 := HS0.out; have n6 := HB.out; have n7 := HOb.out
            (try have mV43 := szV43.out)
            (try have mV42 := szV42.out)
            (try have mV39 := szV39.out)
            (try have mV33 := szV33.out)
            omega
          obtain ⟨z0, z1, z2⟩ := AZ.out.c3
          obtain ⟨y0, y1, y2⟩ := AZ.out.f3
          go_simp
          refine hK.out _ _ ?_ (fun hHeld => ?_)
          · (try dsimp only); exact ((HT.out.skip NZT.out _ _).skip NZT.out _ _).skip NZT.out _ _
          clear hK K
          refine wpAnyH_done (by kernel_rfl) ?_ _
          go_wp2_with fail
          go_meet
          have n1 := hZ.out; have n2 := hIS.out; have n3 := hIN.out; have n4 := HTR.out; have n5 := HS0.out; have n6 := HB.out; have n7 := HOb.out
          (try have mV43 := szV43.out)
          (try have mV42 := szV42.out)
          (try have mV39 := szV39.out)
          (try have mV33 := szV33.out)
          (try have m1 := lAS.out)
          (try have m2 := lAN.out)
          (try have m3 := lAZ.out)
          have l1 := AS.out.lt; have l2 := AN.out.lt; have l3 := AZ.out.lt
          have hOr := HOr.out; have hvo := HVo.out
          have nZ : Z ≠ F ∧ Z ≠ LV ∧ Z ≠ FL ∧ Z ≠ IS ∧ Z ≠ IN ∧ Z ≠ T ∧ Z ≠ R ∧ Z ≠ ob ∧ w.heap.size ≤ Z := by refine ⟨?_, ?_, ?_, ?_, ?_, ?_, ?_, ?_, ?_⟩ <;> omega
          obtain ⟨k1, k2, k3, k4, k5, k6, k7, k8, k9⟩ := nZ
          have nI : IS ≠ IN ∧ IS ≠ F ∧ IS ≠ FL ∧ IS ≠ ob ∧ IS ≠ T ∧ IN ≠ F ∧ IN ≠ FL ∧ IN ≠ ob ∧ IN ≠ T ∧ IS ≠ R ∧ IN ≠ R ∧ F ≠ R ∧ FL ≠ R ∧ ob ≠ R ∧ w.heap.size ≤ IS ∧ w.heap.size ≤ IN ∧ w.heap.size ≤ R := by refine ⟨?_, ?_, ?_, ?_, ?_, ?_, ?_, ?_, ?_, ?_, ?_, ?_, ?_, ?_, ?_, ?_, ?_⟩ <;> omega
          have hM2 := ((HM.out.skip (Z := Z) (by omega) k1 k2 k3 k9 0 (.pointer (some ⟨F, 0, none⟩))).skip (Z := Z) (by omega) k1 k2 k3 k9 1 (.slice (some ⟨IS, 0, none⟩) N N)).skip (Z := Z) (by omega) k1 k2 k3 k9 2 (.slice (some ⟨IN, 0, none⟩) N N)
          refine ⟨Z, F, FL, IS, IN, LV, base, ob, ocap, Lv, Fl, vo, vq, qq, rfl, hidb ⟨hM2, HS.out, hvo, ((hOr.put k8.symm _ _).put k8.symm _ _).put k8.symm _ _, ((HT.out.skip k6 _ _).skip k6 _ _).skip k6 _ _, At.fill3 (AZ.out.has rfl) _ _ _, ((HR3.out.set _ _ _).set _ _ _).set _ _ _, (by rw [← HCS.out.1]; exact ((AS.out.skip k4 _ _).skip k4 _ _).skip k4 _ _), (by rw [← HCS.out.2]; exact ((AN.out.skip k5 _ _).skip k5 _ _).skip k5 _ _), ⟨k1, k2, k3, k4, k5, k6, k7, k8, k9⟩, nI⟩⟩
      · skip
        go_simp
        refine hK.out _ _ ?_ (fun hHeld => ?_)
        · (try dsimp only); exact HT.out.alloc _
        clear hK K
        have szV44 : Hid ((V33.alloc (.cells #[.pointer none, .slice none 0 0, .slice none 0 0] 49)).heap.size = V33.heap.size + 1) := by show _ = _; simp
        have AZ := hidb (At.new3 V33 (.pointer none) (.slice none 0 0) (.slice none 0 0) 49)
        obtain ⟨Z, hZ⟩ : ∃ z, z = V33.heap.size := ⟨_, rfl⟩
        rw [← hZ] at AZ ⊢
        replace hZ := hidb hZ
        replace HT := hidb (HT.out.alloc (.cells #[.pointer none, .slice none 0 0, .slice none 0 0] 49))
        replace HR3 := hidb (HR3.out.alloc (.cells #[.pointer none, .slice none 0 0, .slice none 0 0] 49))
        replace HG := hidb (HG.out.alloc (.cells #[.pointer none, .slice none 0 0, .slice none 0 0] 49))
        replace AN := hidb (AN.out.alloc (.cells #[.pointer none, .slice none 0 0, .slice none 0 0] 49))
        generalize V33.alloc (.cells #[.pointer none, .slice none 0 0, .slice none 0 0] 49) = V44 at *
        refine wpAnyH_ready (rs := [1, 5]) (by kernel_rfl) (by simp) ?_
        refine AllReadyH.cons rfl (fun K hK => ?_) (AllReadyH.cons rfl (fun K hK => ?_) AllReadyH.nil)
        · skip
          go_simp
          go_wp2_with (go_at_call 28; refine (HF.out _ HG.out).mono ?_; rintro e V45 ⟨F, base, LV, FL, Lv, Fl, vo, vq, qq, rfl, hM, hS⟩)
          refine hK.out _ _ ?_ (fun hHeld => ?_)
          · (try dsimp only); exact At.below hM.gr.out HT.out
          clear hK K
          have hbl := hM.gr.out
          replace HT := hidb (At.below hbl HT.out)
          replace HR3 := hidb (Has.below hbl HR3.out)
          have HB := hidb (show (V44.heap.size ≤ F ∧ V44.heap.size ≤ LV ∧ V44.heap.size ≤ FL) ∧ (F < base ∧ LV < base ∧ FL < base) ∧ base ≤ V45.heap.size ∧ V44.heap.size ≤ base from hM.b1)
          have lAN := hidb (AN.out.lt)
          replace AN := hidb (At.below hbl AN.out)
          have lAZ := hidb (AZ.out.lt)
          replace AZ := hidb (At.below hbl AZ.out)
          obtain ⟨ob, ocap, hvo, hOr⟩ := own_rs2 hM.ro (by rw [List.length_map]; exact HOl.out.2)
          have HOb := hidb (show base ≤ ob ∧ ob < V45.heap.size from ⟨(hM.ro.lt ob (by rw [hvo]; rfl)).1, hOr.lt⟩)
          have HVo := hidb hvo
          have HOr := hidb hOr
          clear hvo hOr
          have HM := hidb (FM.rebase HG.out hM)
          have HS := hidb hS
          replace HG := hidb (Gr.step HG.out hbl)
          clear hM hS hbl
          have HWc := hidb (Gr.refl V45)
          have HMc := hidb HM.out
          refine wpAnyH_ready (rs := [5]) (by kernel_rfl) (by simp) ?_
          refine AllReadyH.cons rfl (fun K hK => ?_) AllReadyH.nil
          go_simp
          refine hK.out _ _ ?_ (fun hHeld => ?_)
          · (try dsimp only); exact HT.out.alloc _
          clear hK K
          have szV46 : Hid ((V45.alloc (.cells CB 4)).heap.size = V45.heap.size + 1) := by show _ = _; simp
          have AS := hidb (At.newArr V45 CB 4)
          obtain ⟨IS, hIS⟩ : ∃ z, z = V45.heap.size := ⟨_, rfl⟩
          rw [← hIS] at AS ⊢
          replace hIS := hidb hIS
          replace HT := hidb (HT.out.alloc (.cells CB 4))
          replace HR3 := hidb (HR3.out.alloc (.cells CB 4))
          replace HG := hidb (HG.out.alloc (.cells CB 4))
          replace AN := hidb (AN.out.alloc (.cells CB 4))
          replace AZ := hidb (AZ.out.alloc (.cells CB 4))
          replace HM := hidb (HM.out.alloc (.cells CB 4))
          replace HOr := hidb (HOr.out.below ((Gr.refl _).alloc (.cells CB 4)).out)
          replace HWc := hidb (HWc.out.alloc (.cells CB 4))
          generalize V45.alloc (.cells CB 4) = V46 at *
          refine wpAnyH_take (i := 10) (v := ?vg10x1544) rfl (by kernel_rfl) (by kernel_rfl) (by kernel_rfl) (fun _ _ _ h => h) (Or.inl ⟨by kernel_rfl, ?hg10x1544⟩) (by assumption) ?rg10x1544
          case hg10x1544 => (intro w hSw; (try dsimp only at hSw); obtain ⟨x0, x1, x2⟩ := hSw.c3; go_simp; try with_reducible rfl)
          (try simp only [Act.put, List.getElem_toArray, List.getElem_cons_zero, List.getElem_cons_succ, List.setIfInBounds_toArray, List.set_cons_zero, List.set_cons_succ])
          refine wpAnyH_ready (rs := [12]) (by kernel_rfl) (by simp) ?_
          refine AllReadyH.cons rfl (fun K hK => ?_) AllReadyH.nil
          have NZT : Hid (¬ Z = T) := by
            show ¬ _
            have n1 := hZ.out; have n2 := hIS.out; have n3 := hIN.out; have n4 := HTR.out; have n5 := HS0.out; have n6 := HB.out; have n7 := HOb.out
            (try have mV46 := szV46.out)
            (try have mV45 := szV45.out)
            (try have mV44 := szV44.out)
            (try have mV33 := szV33.out)
            omega
          obtain ⟨z0, z1, z2⟩ := AZ.out.c3
          obtain ⟨y0, y1, y2⟩ := AZ.out.f3
          go_simp
          refine hK.out _ _ ?_ (fun hHeld => ?_)
          · (try dsimp only); exact ((HT.out.skip NZT.out _ _).skip NZT.out _ _).skip NZT.out _ _
          clear hK K
          refine wpAnyH_done (by kernel_rfl) ?_ _
          go_wp2_with fail
          go_meet
          have n1 := hZ.out; have n2 := hIS.out; have n3 := hIN.out; have n4 := HTR.out; have n5 := HS0.out; have n6 := HB.out; have n7 := HOb.out
          (try have mV46 := szV46.out)
          (try have mV45 := szV45.out)
          (try have mV44 := szV44.out)
          (try have mV33 := szV33.out)
          (try have m1 := lAS.out)
          (try have m2 := lAN.out)
          (try have m3 := lAZ.out)
          have l1 := AS.out.lt; have l2 := AN.out.lt; have l3 := AZ.out.lt
          have hOr := HOr.out; have hvo := HVo.out
          have nZ : Z ≠ F ∧ Z ≠ LV ∧ Z ≠ FL ∧ Z ≠ IS ∧ Z ≠ IN ∧ Z ≠ T ∧ Z ≠ R ∧ Z ≠ ob ∧ w.heap.size ≤ Z := by refine ⟨?_, ?_, ?_, ?_, ?_, ?_, ?_, ?_, ?_⟩ <;> omega
          obtain ⟨k1, k2, k3, k4, k5, k6, k7, k8, k9⟩ := nZ
          have nI : IS ≠ IN ∧ IS ≠ F ∧ IS ≠ FL ∧ IS ≠ ob ∧ IS ≠ T ∧ IN ≠ F ∧ IN ≠ FL ∧ IN ≠ ob ∧ IN ≠ T ∧ IS ≠ R ∧ IN ≠ R ∧ F ≠ R ∧ FL ≠ R ∧ ob ≠ R ∧ w.heap.size ≤ IS ∧ w.heap.size ≤ IN ∧ w.heap.size ≤ R := by refine ⟨?_, ?_, ?_, ?_, ?_, ?_, ?_, ?_, ?_, ?_, ?_, ?_, ?_, ?_, ?_, ?_, ?_⟩ <;> omega
          have hM2 := ((HM.out.skip (Z := Z) (by omega) k1 k2 k3 k9 0 (.pointer (some ⟨F, 0, none⟩))).skip (Z := Z) (by omega) k1 k2 k3 k9 1 (.slice (some ⟨IS, 0, none⟩) N N)).skip (Z := Z) (by omega) k1 k2 k3 k9 2 (.slice (some ⟨IN, 0, none⟩) N N)
          refine ⟨Z, F, FL, IS, IN, LV, base, ob, ocap, Lv, Fl, vo, vq, qq, rfl, hidb ⟨hM2, HS.out, hvo, ((hOr.put k8.symm _ _).put k8.symm _ _).put k8.symm _ _, ((HT.out.skip k6 _ _).skip k6 _ _).skip k6 _ _, At.fill3 (AZ.out.has rfl) _ _ _, ((HR3.out.set _ _ _).set _ _ _).set _ _ _, (by rw [← HCS.out.1]; exact ((AS.out.skip k4 _ _).skip k4 _ _).skip k4 _ _), (by rw [← HCS.out.2]; exact ((AN.out.skip k5 _ _).skip k5 _ _).skip k5 _ _), ⟨k1, k2, k3, k4, k5, k6, k7, k8, k9⟩, nI⟩⟩
        · skip
          go_simp
          refine hK.out _ _ ?_ (fun hHeld => ?_)
          · (try dsimp only); exact HT.out.alloc _
          clear hK K
          have szV47 : Hid ((V44.alloc (.cells CB 4)).heap.size = V44.heap.size + 1) := by show _ = _; simp
          have AS := hidb (At.newArr V44 CB 4)
          obtain ⟨IS, hIS⟩ : ∃ z, z = V44.heap.size := ⟨_, rfl⟩
          rw [← hIS] at AS ⊢
          replace hIS := hidb hIS
          replace HT := hidb (HT.out.alloc (.cells CB 4))
          replace HR3 := hidb (HR3.out.alloc (.cells CB 4))
          replace HG := hidb (HG.out.alloc (.cells CB 4))
          replace AN := hidb (AN.out.alloc (.cells CB 4))
          replace AZ := hidb (AZ.out.alloc (.cells CB 4))
          generalize V44.alloc (.cells CB 4) = V47 at *
          refine wpAnyH_ready (rs := [1]) (by kernel_rfl) (by simp) ?_
          refine AllReadyH.cons rfl (fun K hK => ?_) AllReadyH.nil
          go_simp
          go_wp2_with (go_at_call 28; refine (HF.out _ HG.out).mono ?_; rintro e V48 ⟨F, base, LV, FL, Lv, Fl, vo, vq, qq, rfl, hM, hS⟩)
          refine hK.out _ _ ?_ (fun hHeld => ?_)
          · (try dsimp only); exact At.below hM.gr.out HT.out
          clear hK K
          have hbl := hM.gr.out
          replace HT := hidb (At.below hbl HT.out)
          replace HR3 := hidb (Has.below hbl HR3.out)
          have HB := hidb (show (V47.heap.size ≤ F ∧ V47.heap.size ≤ LV ∧ V47.heap.size ≤ FL) ∧ (F < base ∧ LV < base ∧ FL < base) ∧ base ≤ V48.heap.size ∧ V47.heap.size ≤ base from hM.b1)
          have lAS := hidb (AS.out.lt)
          replace AS := hidb (At.below hbl AS.out)
          have lAN := hidb (AN.out.lt)
          replace AN := hidb (At.below hbl AN.out)
          have lAZ := hidb (AZ.out.lt)
          replace AZ := hidb (At.below hbl AZ.out)
          obtain ⟨ob, ocap, hvo, hOr⟩ := own_rs2 hM.ro (by rw [List.length_map]; exact HOl.out.2)
          have HOb := hidb (show base ≤ ob ∧ ob < V48.heap.size from ⟨(hM.ro.lt ob (by rw [hvo]; rfl)).1, hOr.lt⟩)
          have HVo := hidb hvo
          have HOr := hidb hOr
          clear hvo hOr
          have HM := hidb (FM.rebase HG.out hM)
          have HS := hidb hS
          replace HG := hidb (Gr.step HG.out hbl)
          clear hM hS hbl
          have HWc := hidb (Gr.refl V48)
          have HMc := hidb HM.out
          refine wpAnyH_take (i := 10) (v := ?vg10x1625) rfl (by kernel_rfl) (by kernel_rfl) (by kernel_rfl) (fun _ _ _ h => h) (Or.inl ⟨by kernel_rfl, ?hg10x1625⟩) (by assumption) ?rg10x1625
          case hg10x1625 => (intro w hSw; (try dsimp only at hSw); obtain ⟨x0, x1, x2⟩ := hSw.c3; go_simp; try with_reducible rfl)
          (try simp only [Act.put, List.getElem_toArray, List.getElem_cons_zero, List.getElem_cons_succ, List.setIfInBounds_toArray, List.set_cons_zero, List.set_cons_succ])
          refine wpAnyH_ready (rs := [12]) (by kernel_rfl) (by simp) ?_
          refine AllReadyH.cons rfl (fun K hK => ?_) AllReadyH.nil
          have NZT : Hid (¬ Z = T) := by
            show ¬ _
            have n1 := hZ.out; have n2 := hIS.out; have n3 := hIN.out; have n4 := HTR.out; have n5 := HS0.out; have n6 := HB.out; have n7 := HOb.out
            (try have mV48 := szV48.out)
            (try have mV47 := szV47.out)
            (try have mV44 := szV44.out)
            (try have mV33 := szV33.out)
            omega
          obtain ⟨z0, z1, z2⟩ := AZ.out.c3
          obtain ⟨y0, y1, y2⟩ := AZ.out.f3
          go_simp
          refine hK.out _ _ ?_ (fun hHeld => ?_)
          · (try dsimp only); exact ((HT.out.skip NZT.out _ _).skip NZT.out _ _).skip NZT.out _ _
          clear hK K
          refine wpAnyH_done (by kernel_rfl) ?_ _
          go_wp2_with fail
          go_meet
          have n1 := hZ.out; have n2 := hIS.out; have n3 := hIN.out; have n4 := HTR.out; have n5 := HS0.out; have n6 := HB.out; have n7 := HOb.out
          (try have mV48 := szV48.out)
          (try have mV47 := szV47.out)
          (try have mV44 := szV44.out)
          (try have mV33 := szV33.out)
          (try have m1 := lAS.out)
          (try have m2 := lAN.out)
          (try have m3 := lAZ.out)
          have l1 := AS.out.lt; have l2 := AN.out.lt; have l3 := AZ.out.lt
          have hOr := HOr.out; have hvo := HVo.out
          have nZ : Z ≠ F ∧ Z ≠ LV ∧ Z ≠ FL ∧ Z ≠ IS ∧ Z ≠ IN ∧ Z ≠ T ∧ Z ≠ R ∧ Z ≠ ob ∧ w.heap.size ≤ Z := by refine ⟨?_, ?_, ?_, ?_, ?_, ?_, ?_, ?_, ?_⟩ <;> omega
          obtain ⟨k1, k2, k3, k4, k5, k6, k7, k8, k9⟩ := nZ
          have nI : IS ≠ IN ∧ IS ≠ F ∧ IS ≠ FL ∧ IS ≠ ob ∧ IS ≠ T ∧ IN ≠ F ∧ IN ≠ FL ∧ IN ≠ ob ∧ IN ≠ T ∧ IS ≠ R ∧ IN ≠ R ∧ F ≠ R ∧ FL ≠ R ∧ ob ≠ R ∧ w.heap.size ≤ IS ∧ w.heap.size ≤ IN ∧ w.heap.size ≤ R := by refine ⟨?_, ?_, ?_, ?_, ?_, ?_, ?_, ?_, ?_, ?_, ?_, ?_, ?_, ?_, ?_, ?_, ?_⟩ <;> omega
          have hM2 := ((HM.out.skip (Z := Z) (by omega) k1 k2 k3 k9 0 (.pointer (some ⟨F, 0, none⟩))).skip (Z := Z) (by omega) k1 k2 k3 k9 1 (.slice (some ⟨IS, 0, none⟩) N N)).skip (Z := Z) (by omega) k1 k2 k3 k9 2 (.slice (some ⟨IN, 0, none⟩) N N)
          refine ⟨Z, F, FL, IS, IN, LV, base, ob, ocap, Lv, Fl, vo, vq, qq, rfl, hidb ⟨hM2, HS.out, hvo, ((hOr.put k8.symm _ _).put k8.symm _ _).put k8.symm _ _, ((HT.out.skip k6 _ _).skip k6 _ _).skip k6 _ _, At.fill3 (AZ.out.has rfl) _ _ _, ((HR3.out.set _ _ _).set _ _ _).set _ _ _, (by rw [← HCS.out.1]; exact ((AS.out.skip k4 _ _).skip k4 _ _).skip k4 _ _), (by rw [← HCS.out.2]; exact ((AN.out.skip k5 _ _).skip k5 _ _).skip k5 _ _), ⟨k1, k2, k3, k4, k5, k6, k7, k8, k9⟩, nI⟩⟩
    · skip
      go_simp
      refine hK.out _ _ ?_ (fun hHeld => ?_)
      · (try dsimp only); exact HT.out.alloc _
      clear hK K
      have szV49 : Hid ((V0.alloc (.cells #[.pointer none, .slice none 0 0, .slice none 0 0] 49)).heap.size = V0.heap.size + 1) := by show _ = _; simp
      have AZ := hidb (At.new3 V0 (.pointer none) (.slice none 0 0) (.slice none 0 0) 49)
      obtain ⟨Z, hZ⟩ : ∃ z, z = V0.heap.size := ⟨_, rfl⟩
      rw [← hZ] at AZ ⊢
      replace hZ := hidb hZ
      replace HT := hidb (HT.out.alloc (.cells #[.pointer none, .slice none 0 0, .slice none 0 0] 49))
      replace HR3 := hidb (HR3.out.alloc (.cells #[.pointer none, .slice none 0 0, .slice none 0 0] 49))
      replace HG := hidb (HG.out.alloc (.cells #[.pointer none, .slice none 0 0, .slice none 0 0] 49))
      generalize V0.alloc (.cells #[.pointer none, .slice none 0 0, .slice none 0 0] 49) = V49 at *
      refine wpAnyH_ready (rs := [1, 5, 9]) (by kernel_rfl) (by simp) ?_
      refine AllReadyH.cons rfl (fun K hK => ?_) (AllReadyH.cons rfl (fun K hK => ?_) (AllReadyH.cons rfl (fun K hK => ?_) AllReadyH.nil))
      · skip
        go_simp
        go_wp2_with (go_at_call 28; refine (HF.out _ HG.out).mono ?_; rintro e V50 ⟨F, base, LV, FL, Lv, Fl, vo, vq, qq, rfl, hM, hS⟩)
        refine hK.out _ _ ?_ (fun hHeld => ?_)
        · (try dsimp only); exact At.below hM.gr.out HT.out
        clear hK K
        have hbl := hM.gr.out
        replace HT := hidb (At.below hbl HT.out)
        replace HR3 := hidb (Has.below hbl HR3.out)
        have HB := hidb (show (V49.heap.size ≤ F ∧ V49.heap.size ≤ LV ∧ V49.heap.size ≤ FL) ∧ (F < base ∧ LV < base ∧ FL < base) ∧ base ≤ V50.heap.size ∧ V49.heap.size ≤ base from hM.b1)
        have lAZ := hidb (AZ.out.lt)
        replace AZ := hidb (At.below hbl AZ.out)
        obtain ⟨ob, ocap, hvo, hOr⟩ := own_rs2 hM.ro (by rw [List.length_map]; exact HOl.out.2)
        have HOb := hidb (show base ≤ ob ∧ ob < V50.heap.size from ⟨(hM.ro.lt ob (by rw [hvo]; rfl)).1, hOr.lt⟩)
        have HVo := hidb hvo
        have HOr := hidb hOr
        clear hvo hOr
        have HM := hidb (FM.rebase HG.out hM)
        have HS := hidb hS
        replace HG := hidb (Gr.step HG.out hbl)
        clear hM hS hbl
        have HWc := hidb (Gr.refl V50)
        have HMc := hidb HM.out
        refine wpAnyH_ready (rs := [5, 9]) (by kernel_rfl) (by simp) ?_
        refine AllReadyH.cons rfl (fun K hK => ?_) (AllReadyH.cons rfl (fun K hK => ?_) AllReadyH.nil)
        · skip
          go_simp
          refine hK.out _ _ ?_ (fun hHeld => ?_)
          · (try dsimp only); exact HT.out.alloc _
          clear hK K
          have szV51 : Hid ((V50.alloc (.cells CB 4)).heap.size = V50.heap.size + 1) := by show _ = _; simp
          have AS := hidb (At.newArr V50 CB 4)
          obtain ⟨IS, hIS⟩ : ∃ z, z = V50.heap.size := ⟨_, rfl⟩
          rw [← hIS] at AS ⊢
          replace hIS := hidb hIS
          replace HT := hidb (HT.out.alloc (.cells CB 4))
          replace HR3 := hidb (HR3.out.alloc (.cells CB 4))
          replace HG := hidb (HG.out.alloc (.cells CB 4))
          replace AZ := hidb (AZ.out.alloc (.cells CB 4))
          replace HM := hidb (HM.out.alloc (.cells CB 4))
          replace HOr := hidb (HOr.out.below ((Gr.refl _).alloc (.cells CB 4)).out)
          replace HWc := hidb (HWc.out.alloc (.cells CB 4))
          generalize V50.alloc (.cells CB 4) = V51 at *
          refine wpAnyH_ready (rs := [9]) (by kernel_rfl) (by simp) ?_
          refine AllReadyH.cons rfl (fun K hK => ?_) AllReadyH.nil
          go_simp
          refine hK.out _ _ ?_ (fun hHeld => ?_)
          · (try dsimp only); exact HT.out.alloc _
          clear hK K
          have szV52 : Hid ((V51.alloc (.cells CI 3)).heap.size = V51.heap.size + 1) := by show _ = _; simp
          have AN := hidb (At.newArr V51 CI 3)
          obtain ⟨IN, hIN⟩ : ∃ z, z = V51.heap.size := ⟨_, rfl⟩
          rw [← hIN] at AN ⊢
          replace hIN := hidb hIN
          replace HT := hidb (HT.out.alloc (.cells CI 3))
          replace HR3 := hidb (HR3.out.alloc (.cells CI 3))
          replace HG := hidb (HG.out.alloc (.cells CI 3))
          replace AS := hidb (AS.out.alloc (.cells CI 3))
          replace AZ := hidb (AZ.out.alloc (.cells CI 3))
          replace HM := hidb (HM.out.alloc (.cells CI 3))
          replace HOr := hidb (HOr.out.below ((Gr.refl _).alloc (.cells CI 3)).out)
          replace HWc := hidb (HWc.out.alloc (.cells CI 3))
          generalize V51.alloc (.cells CI 3) = V52 at *
          refine wpAnyH_take (i := 10) (v := ?vg10x1741) rfl (by kernel_rfl) (by kernel_rfl) (by kernel_rfl) (fun _ _ _ h => h) (Or.inl ⟨by kernel_rfl, ?hg10x1741⟩) (by assumption) ?rg10x1741
          case hg10x1741 => (intro w hSw; (try dsimp only at hSw); obtain ⟨x0, x1, x2⟩ := hSw.c3; go_simp; try with_reducible rfl)
          (try simp only [Act.put, List.getElem_toArray, List.getElem_cons_zero, List.getElem_cons_succ, List.setIfInBounds_toArray, List.set_cons_zero, List.set_cons_succ])
          refine wpAnyH_ready (rs := [12]) (by kernel_rfl) (by simp) ?_
          refine AllReadyH.cons rfl (fun K hK => ?_) AllReadyH.nil
          have NZT : Hid (¬ Z = T) := by
            show ¬ _
            have n1 := hZ.out; have n2 := hIS.out; have n3 := hIN.out; have n4 := HTR.out; have n5 := HS0.out; have n6 := HB.out; have n7 := HOb.out
            (try have mV52 := szV52.out)
            (try have mV51 := szV51.out)
            (try have mV50 := szV50.out)
            (try have mV49 := szV49.out)
            omega
          obtain ⟨z0, z1, z2⟩ := AZ.out.c3
          obtain ⟨y0, y1, y2⟩ := AZ.out.f3
          go_simp
          refine hK.out _ _ ?_ (fun hHeld => ?_)
          · (try dsimp only); exact ((HT.out.skip NZT.out _ _).skip NZT.out _ _).skip NZT.out _ _
          clear hK K
          refine wpAnyH_done (by kernel_rfl) ?_ _
          go_wp2_with fail
          go_meet
          have n1 := hZ.out; have n2 := hIS.out; have n3 := hIN.out; have n4 := HTR.out; have n5 := HS0.out; have n6 := HB.out; have n7 := HOb.out
          (try have mV52 := szV52.out)
          (try have mV51 := szV51.out)
          (try have mV50 := szV50.out)
          (try have mV49 := szV49.out)
          (try have m1 := lAS.out)
          (try have m2 := lAN.out)
          (try have m3 := lAZ.out)
          have l1 := AS.out.lt; have l2 := AN.out.lt; have l3 := AZ.out.lt
          have hOr := HOr.out; have hvo := HVo.out
          have nZ : Z ≠ F ∧ Z ≠ LV ∧ Z ≠ FL ∧ Z ≠ IS ∧ Z ≠ IN ∧ Z ≠ T ∧ Z ≠ R ∧ Z ≠ ob ∧ w.heap.size ≤ Z := by refine ⟨?_, ?_, ?_, ?_, ?_, ?_, ?_, ?_, ?_⟩ <;> omega
          obtain ⟨k1, k2, k3, k4, k5, k6, k7, k8, k9⟩ := nZ
          have nI : IS ≠ IN ∧ IS ≠ F ∧ IS ≠ FL ∧ IS ≠ ob ∧ IS ≠ T ∧ IN ≠ F ∧ IN ≠ FL ∧ IN ≠ ob ∧ IN ≠ T ∧ IS ≠ R ∧ IN ≠ R ∧ F ≠ R ∧ FL ≠ R ∧ ob ≠ R ∧ w.heap.size ≤ IS ∧ w.heap.size ≤ IN ∧ w.heap.size ≤ R := by refine ⟨?_, ?_, ?_, ?_, ?_, ?_, ?_, ?_, ?_, ?_, ?_, ?_, ?_, ?_, ?_, ?_, ?_⟩ <;> omega
          have hM2 := ((HM.out.skip (Z := Z) (by omega) k1 k2 k3 k9 0 (.pointer (some ⟨F, 0, none⟩))).skip (Z := Z) (by omega) k1 k2 k3 k9 1 (.slice (some ⟨IS, 0, none⟩) N N)).skip (Z := Z) (by omega) k1 k2 k3 k9 2 (.slice (some ⟨IN, 0, none⟩) N N)
          refine ⟨Z, F, FL, IS, IN, LV, base, ob, ocap, Lv, Fl, vo, vq, qq, rfl, hidb ⟨hM2, HS.out, hvo, ((hOr.put k8.symm _ _).put k8.symm _ _).put k8.symm _ _, ((HT.out.skip k6 _ _).skip k6 _ _).skip k6 _ _, At.fill3 (AZ.out.has rfl) _ _ _, ((HR3.out.set _ _ _).set _ _ _).set _ _ _, (by rw [← HCS.out.1]; exact ((AS.out.skip k4 _ _).skip k4 _ _).skip k4 _ _), (by rw [← HCS.out.2]; exact ((AN.out.skip k5 _ _).skip k5 _ _).skip k5 _ _), ⟨k1, k2, k3, k4, k5, k6, k7, k8, k9⟩, nI⟩⟩
        · skip
          go_simp
          refine hK.out _ _ ?_ (fun hHeld => ?_)
          · (try dsimp only); exact HT.out.alloc _
          clear hK K
          have szV53 : Hid ((V50.alloc (.cells CI 3)).heap.size = V50.heap.size + 1) := by show _ = _; simp
          have AN := hidb (At.newArr V50 CI 3)
          obtain ⟨IN, hIN⟩ : ∃ z, z = V50.heap.size := ⟨_, rfl⟩
          rw [← hIN] at AN ⊢
          replace hIN := hidb hIN
          replace HT := hidb (HT.out.alloc (.cells CI 3))
          replace HR3 := hidb (HR3.out.alloc (.cells CI 3))
          replace HG := hidb (HG.out.alloc (.cells CI 3))
          replace AZ := hidb (AZ.out.alloc (.cells CI 3))
          replace HM := hidb (HM.out.alloc (.cells CI 3))
          replace HOr := hidb (HOr.out.below ((Gr.refl _).alloc (.cells CI 3)).out)
          replace HWc := hidb (HWc.out.alloc (.cells CI 3))
          generalize V50.alloc (.cells CI 3) = V53 at *
          refine wpAnyH_ready (rs := [5]) (by kernel_rfl) (by simp) ?_
          refine AllReadyH.cons rfl (fun K hK => ?_) AllReadyH.nil
          go_simp
          refine hK.out _ _ ?_ (fun hHeld => ?_)
          · (try dsimp only); exact HT.out.alloc _
          clear hK K
          have szV54 : Hid ((V53.alloc (.cells CB 4)).heap.size = V53.heap.size + 1) := by show _ = _; simp
          have AS := hidb (At.newArr V53 CB 4)
          obtain ⟨IS, hIS⟩ : ∃ z, z = V53.heap.size := ⟨_, rfl⟩
          rw [← hIS] at AS ⊢
          replace hIS := hidb hIS
          replace HT := hidb (HT.out.alloc (.cells CB 4))
          replace HR3 := hidb (HR3.out.alloc (.cells CB 4))
          replace HG := hidb (HG.out.alloc (.cells CB 4))
          replace AN := hidb (AN.out.alloc (.cells CB 4))
          replace AZ := hidb (AZ.out.alloc (.cells CB 4))
          replace HM := hidb (HM.out.alloc (.cells CB 4))
          replace HOr := hidb (HOr.out.below ((Gr.refl _).alloc (.cells CB 4)).out)
          replace HWc := hidb (HWc.out.alloc (.cells CB 4))
          generalize V53.alloc (.cells CB 4) = V54 at *
          refine wpAnyH_take (i := 10) (v := ?vg10x1816) rfl (by kernel_rfl) (by kernel_rfl) (by kernel_rfl) (fun _ _ _ h => h) (Or.inl ⟨by kernel_rfl, ?hg10x1816⟩) (by assumption) ?rg10x1816
          case hg10x1816 => (intro w hSw; (try dsimp only at hSw); obtain ⟨x0, x1, x2⟩ := hSw.c3; go_simp; try with_reducible rfl)
          (try simp only [Act.put, List.getElem_toArray, List.getElem_cons_zero, List.getElem_cons_succ, List.setIfInBounds_toArray, List.set_cons_zero, List.set_cons_succ])
          refine wpAnyH_ready (rs := [12]) (by kernel_rfl) (by simp) ?_
          refine AllReadyH.cons rfl (fun K hK => ?_) AllReadyH.nil
          have NZT : Hid (¬ Z = T) := by
            show ¬ _
            have n1 := hZ.out; have n2 := hIS.out; have n3 := hIN.out; have n4 := HTR.out; have n5 := HS0.out; have n6 := HB.out; have n7 := HOb.out
            (try have mV54 := szV54.out)
            (try have mV53 := szV53.out)
            (try have mV50 := szV50.out)
            (try have mV49 := szV49.out)
            omega
          obtain ⟨z0, z1, z2⟩ := AZ.out.c3
          obtain ⟨y0, y1, y2⟩ := AZ.out.f3
          go_simp
          refine hK.out _ _ ?_ (fun hHeld => ?_)
          · (try dsimp only); exact ((HT.out.skip NZT.out _ _).skip NZT.out _ _).skip NZT.out _ _
          clear hK K
          refine wpAnyH_done (by kernel_rfl) ?_ _
          go_wp2_with fail
          go_meet
          have n1 := hZ.out; have n2 := hIS.out; have n3 := hIN.out; have n4 := HTR.out; have n5 := HS0.out; have n6 := HB.out; have n7 := HOb.out
          (try have mV54 := szV54.out)
          (try have mV53 := szV53.out)
          (try have mV50 := szV50.out)
          (try have mV49 := szV49.out)
          (try have m1 := lAS.out)
          (try have m2 := lAN.out)
          (try have m3 := lAZ.out)
          have l1 := AS.out.lt; have l2 := AN.out.lt; have l3 := AZ.out.lt
          have hOr := HOr.out; have hvo := HVo.out
          have nZ : Z ≠ F ∧ Z ≠ LV ∧ Z ≠ FL ∧ Z ≠ IS ∧ Z ≠ IN ∧ Z ≠ T ∧ Z ≠ R ∧ Z ≠ ob ∧ w.heap.size ≤ Z := by refine ⟨?_, ?_, ?_, ?_, ?_, ?_, ?_, ?_, ?_⟩ <;> omega
          obtain ⟨k1, k2, k3, k4, k5, k6, k7, k8, k9⟩ := nZ
          have nI : IS ≠ IN ∧ IS ≠ F ∧ IS ≠ FL ∧ IS ≠ ob ∧ IS ≠ T ∧ IN ≠ F ∧ IN ≠ FL ∧ IN ≠ ob ∧ IN ≠ T ∧ IS ≠ R ∧ IN ≠ R ∧ F ≠ R ∧ FL ≠ R ∧ ob ≠ R ∧ w.heap.size ≤ IS ∧ w.heap.size ≤ IN ∧ w.heap.size ≤ R := by refine ⟨?_, ?_, ?_, ?_, ?_, ?_, ?_, ?_, ?_, ?_, ?_, ?_, ?_, ?_, ?_, ?_, ?_⟩ <;> omega
          have hM2 := ((HM.out.skip (Z := Z) (by omega) k1 k2 k3 k9 0 (.pointer (some ⟨F, 0, none⟩))).skip (Z := Z) (by omega) k1 k2 k3 k9 1 (.slice (some ⟨IS, 0, none⟩) N N)).skip (Z := Z) (by omega) k1 k2 k3 k9 2 (.slice (some ⟨IN, 0, none⟩) N N)
          refine ⟨Z, F, FL, IS, IN, LV, base, ob, ocap, Lv, Fl, vo, vq, qq, rfl, hidb ⟨hM2, HS.out, hvo, ((hOr.put k8.symm _ _).put k8.symm _ _).put k8.symm _ _, ((HT.out.skip k6 _ _).skip k6 _ _).skip k6 _ _, At.fill3 (AZ.out.has rfl) _ _ _, ((HR3.out.set _ _ _).set _ _ _).set _ _ _, (by rw [← HCS.out.1]; exact ((AS.out.skip k4 _ _).skip k4 _ _).skip k4 _ _), (by rw [← HCS.out.2]; exact ((AN.out.skip k5 _ _).skip k5 _ _).skip k5 _ _), ⟨k1, k2, k3, k4, k5, k6, k7, k8, k9⟩, nI⟩⟩
      · skip
        go_simp
        refine hK.out _ _ ?_ (fun hHeld => ?_)
        · (try dsimp only); exact HT.out.alloc _
        clear hK K
        have szV55 : Hid ((V49.alloc (.cells CB 4)).heap.size = V49.heap.size + 1) := by show _ = _; simp
        have AS := hidb (At.newArr V49 CB 4)
        obtain ⟨IS, hIS⟩ : ∃ z, z = V49.heap.size := ⟨_, rfl⟩
        rw [← hIS] at AS ⊢
        replace hIS := hidb hIS
        replace HT := hidb (HT.out.alloc (.cells CB 4))
        replace HR3 := hidb (HR3.out.alloc (.cells CB 4))
        replace HG := hidb (HG.out.alloc (.cells CB 4))
        replace AZ := hidb (AZ.out.alloc (.cells CB 4))
        generalize V49.alloc (.cells CB 4) = V55 at *
        refine wpAnyH_ready (rs := [1, 9]) (by kernel_rfl) (by simp) ?_
        refine AllReadyH.cons rfl (fun K hK => ?_) (AllReadyH.cons rfl (fun K hK => ?_) AllReadyH.nil)
        · skip
          go_simp
          go_wp2_with (go_at_call 28; refine (HF.out _ HG.out).mono ?_; rintro e V56 ⟨F, base, LV, FL, Lv, Fl, vo, vq, qq, rfl, hM, hS⟩)
          refine hK.out _ _ ?_ (fun hHeld => ?_)
          · (try dsimp only); exact At.below hM.gr.out HT.out
          clear hK K
          have hbl := hM.gr.out
          replace HT := hidb (At.below hbl HT.out)
          replace HR3 := hidb (Has.below hbl HR3.out)
          have HB := hidb (show (V55.heap.size ≤ F ∧ V55.heap.size ≤ LV ∧ V55.heap.size ≤ FL) ∧ (F < base ∧ LV < base ∧ FL < base) ∧ base ≤ V56.heap.size ∧ V55.heap.size ≤ base from hM.b1)
          have lAS := hidb (AS.out.lt)
          replace AS := hidb (At.below hbl AS.out)
          have lAZ := hidb (AZ.out.lt)
          replace AZ := hidb (At.below hbl AZ.out)
          obtain ⟨ob, ocap, hvo, hOr⟩ := own_rs2 hM.ro (by rw [List.length_map]; exact HOl.out.2)
          have HOb := hidb (show base ≤ ob ∧ ob < V56.heap.size from ⟨(hM.ro.lt ob (by rw [hvo]; rfl)).1, hOr.lt⟩)
          have HVo := hidb hvo
          have HOr := hidb hOr
          clear hvo hOr
          have HM := hidb (FM.rebase HG.out hM)
          have HS := hidb hS
          replace HG := hidb (Gr.step HG.out hbl)
          clear hM hS hbl
          have HWc := hidb (Gr.refl V56)
          have HMc := hidb HM.out
          refine wpAnyH_ready (rs := [9]) (by kernel_rfl) (by simp) ?_
          refine AllReadyH.cons rfl (fun K hK => ?_) AllReadyH.nil
          go_simp
          refine hK.out _ _ ?_ (fun hHeld => ?_)
          · (try dsimp only); exact HT.out.alloc _
          clear hK K
          have szV57 : Hid ((V56.alloc (.cells CI 3)).heap.size = V56.heap.size + 1) := by show _ = _; simp
          have AN := hidb (At.newArr V56 CI 3)
          obtain ⟨IN, hIN⟩ : ∃ z, z = V56.heap.size := ⟨_, rfl⟩
          rw [← hIN] at AN ⊢
          replace hIN := hidb hIN
          replace HT := hidb (HT.out.alloc (.cells CI 3))
          replace HR3 := hidb (HR3.out.alloc (.cells CI 3))
          replace HG := hidb (HG.out.alloc (.cells CI 3))
          replace AS := hidb (AS.out.alloc (.cells CI 3))
          replace AZ := hidb (AZ.out.alloc (.cells CI 3))
          replace HM := hidb (HM.out.alloc (.cells CI 3))
          replace HOr := hidb (HOr.out.below ((Gr.refl _).alloc (.cells CI 3)).out)
          replace HWc := hidb (HWc.out.alloc (.cells CI 3))
          generalize V56.alloc (.cells CI 3) = V57 at *
          refine wpAnyH_take (i := 10) (v := ?vg10x1915) rfl (by kernel_rfl) (by kernel_rfl) (by kernel_rfl) (fun _ _ _ h => h) (Or.inl ⟨by kernel_rfl, ?hg10x1915⟩) (by assumption) ?rg10x1915
          case hg10x1915 => (intro w hSw; (try dsimp only at hSw); obtain ⟨x0, x1, x2⟩ := hSw.c3; go_simp; try with_reducible rfl)
          (try simp only [Act.put, List.getElem_toArray, List.getElem_cons_zero, List.getElem_cons_succ, List.setIfInBounds_toArray, List.set_cons_zero, List.set_cons_succ])
          refine wpAnyH_ready (rs := [12]) (by kernel_rfl) (by simp) ?_
          refine AllReadyH.cons rfl (fun K hK => ?_) AllReadyH.nil
          have NZT : Hid (¬ Z = T) := by
            show ¬ _
            have n1 := hZ.out; have n2 := hIS.out; have n3 := hIN.out; have n4 := HTR.out; have n5 := HS0.out; have n6 := HB.out; have n7 := HOb.out
            (try have mV57 := szV57.out)
            (try have mV56 := szV56.out)
            (try have mV55 := szV55.out)
            (try have mV49 := szV49.out)
            omega
          obtain ⟨z0, z1, z2⟩ := AZ.out.c3
          obtain ⟨y0, y1, y2⟩ := AZ.out.f3
          go_simp
          refine hK.out _ _ ?_ (fun hHeld => ?_)
          · (try dsimp only); exact ((HT.out.skip NZT.out _ _).skip NZT.out _ _).skip NZT.out _ _
          clear hK K
          refine wpAnyH_done (by kernel_rfl) ?_ _
          go_wp2_with fail
          go_meet
          have n1 := hZ.out; have n2 := hIS.out; have n3 := hIN.out; have n4 := HTR.out; have n5 := HS0.out; have n6 := HB.out; have n7 := HOb.out
          (try have mV57 := szV57.out)
          (try have mV56 := szV56.out)
          (try have mV55 := szV55.out)
          (try have mV49 := szV49.out)
          (try have m1 := lAS.out)
          (try have m2 := lAN.out)
          (try have m3 := lAZ.out)
          have l1 := AS.out.lt; have l2 := AN.out.lt; have l3 := AZ.out.lt
          have hOr := HOr.out; have hvo := HVo.out
          have nZ : Z ≠ F ∧ Z ≠ LV ∧ Z ≠ FL ∧ Z ≠ IS ∧ Z ≠ IN ∧ Z ≠ T ∧ Z ≠ R ∧ Z ≠ ob ∧ w.heap.size ≤ Z := by refine ⟨?_, ?_, ?_, ?_, ?_, ?_, ?_, ?_, ?_⟩ <;> omega
          obtain ⟨k1, k2, k3, k4, k5, k6, k7, k8, k9⟩ := nZ
          have nI : IS ≠ IN ∧ IS ≠ F ∧ IS ≠ FL ∧ IS ≠ ob ∧ IS ≠ T ∧ IN ≠ F ∧ IN ≠ FL ∧ IN ≠ ob ∧ IN ≠ T ∧ IS ≠ R ∧ IN ≠ R ∧ F ≠ R ∧ FL ≠ R ∧ ob ≠ R ∧ w.heap.size ≤ IS ∧ w.heap.size ≤ IN ∧ w.heap.size ≤ R := by refine ⟨?_, ?_, ?_, ?_, ?_, ?_, ?_, ?_, ?_, ?_, ?_, ?_, ?_, ?_, ?_, ?_, ?_⟩ <;> omega
          have hM2 := ((HM.out.skip (Z := Z) (by omega) k1 k2 k3 k9 0 (.pointer (some ⟨F, 0, none⟩))).skip (Z := Z) (by omega) k1 k2 k3 k9 1 (.slice (some ⟨IS, 0, none⟩) N N)).skip (Z := Z) (by omega) k1 k2 k3 k9 2 (.slice (some ⟨IN, 0, none⟩) N N)
          refine ⟨Z, F, FL, IS, IN, LV, base, ob, ocap, Lv, Fl, vo, vq, qq, rfl, hidb ⟨hM2, HS.out, hvo, ((hOr.put k8.symm _ _).put k8.symm _ _).put k8.symm _ _, ((HT.out.skip k6 _ _).skip k6 _ _).skip k6 _ _, At.fill3 (AZ.out.has rfl) _ _ _, ((HR3.out.set _ _ _).set _ _ _).set _ _ _, (by rw [← HCS.out.1]; exact ((AS.out.skip k4 _ _).skip k4 _ _).skip k4 _ _), (by rw [← HCS.out.2]; exact ((AN.out.skip k5 _ _).skip k5 _ _).skip k5 _ _), ⟨k1, k2, k3, k4, k5, k6, k7, k8, k9⟩, nI⟩⟩
        · skip
          go_simp
          refine hK.out _ _ ?_ (fun hHeld => ?_)
          · (try dsimp only); exact HT.out.alloc _
          clear hK K
          have szV58 : Hid ((V55.alloc (.cells CI 3)).heap.size = V55.heap.size + 1) := by show _ = _; simp
          have AN := hidb (At.newArr V55 CI 3)
          obtain ⟨IN, hIN⟩ : ∃ z, z = V55.heap.size := ⟨_, rfl⟩
          rw [← hIN] at AN ⊢
          replace hIN := hidb hIN
          replace HT := hidb (HT.out.alloc (.cells CI 3))
          replace HR3 := hidb (HR3.out.alloc (.cells CI 3))
          replace HG := hidb (HG.out.alloc (.cells CI 3))
          replace AS := hidb (AS.out.alloc (.cells CI 3))
          replace AZ := hidb (AZ.out.alloc (.cells CI 3))
          generalize V55.alloc (.cells CI 3) = V58 at *
          refine wpAnyH_ready (rs := [1]) (by kernel_rfl) (by simp) ?_
          refine AllReadyH.cons rfl (fun K hK => ?_) AllReadyH.nil
          go_simp
          go_wp2_with (go_at_call 28; refine (HF.out _ HG.out).mono ?_; rintro e V59 ⟨F, base, LV, FL, Lv, Fl, vo, vq, qq, rfl, hM, hS⟩)
          refine hK.out _ _ ?_ (fun hHeld => ?_)
          · (try dsimp only); exact At.below hM.gr.out HT.out
          clear hK K
          have hbl := hM.gr.out
          replace HT := hidb (At.below hbl HT.out)
          replace HR3 := hidb (Has.below hbl HR3.out)
          have HB := hidb (show (V58.heap.size ≤ F ∧ V58.heap.size ≤ LV ∧ V58.heap.size ≤ FL) ∧ (F < base ∧ LV < base ∧ FL < base) ∧ base ≤ V59.heap.size ∧ V58.heap.size ≤ base from hM.b1)
          have lAS := hidb (AS.out.lt)
          replace AS := hidb (At.below hbl AS.out)
          have lAN := hidb (AN.out.lt)
          replace AN := hidb (At.below hbl AN.out)
          have lAZ := hidb (AZ.out.lt)
          replace AZ := hidb (At.below hbl AZ.out)
          obtain ⟨ob, ocap, hvo, hOr⟩ := own_rs2 hM.ro (by rw [List.length_map]; exact HOl.out.2)
          have HOb := hidb (show base ≤ ob ∧ ob < V59.heap.size from ⟨(hM.ro.lt ob (by rw [hvo]; rfl)).1, hOr.lt⟩)
          have HVo := hidb hvo
          have HOr := hidb hOr
          clear hvo hOr
          have HM := hidb (FM.rebase HG.out hM)
          have HS := hidb hS
          replace HG := hidb (Gr.step HG.out hbl)
          clear hM hS hbl
          have HWc := hidb (Gr.refl V59)
          have HMc := hidb HM.out
          refine wpAnyH_take (i := 10) (v := ?vg10x1996) rfl (by kernel_rfl) (by kernel_rfl) (by kernel_rfl) (fun _ _ _ h => h) (Or.inl ⟨by kernel_rfl, ?hg10x1996⟩) (by assumption) ?rg10x1996
          case hg10x1996 => (intro w hSw; (try dsimp only at hSw); obtain ⟨x0, x1, x2⟩ := hSw.c3; go_simp; try with_reducible rfl)
          (try simp only [Act.put, List.getElem_toArray, List.getElem_cons_zero, List.getElem_cons_succ, List.setIfInBounds_toArray, List.set_cons_zero, List.set_cons_succ])
          refine wpAnyH_ready (rs := [12]) (by kernel_rfl) (by simp) ?_
          refine AllReadyH.cons rfl (fun K hK => ?_) AllReadyH.nil
          have NZT : Hid (¬ Z = T) := by
            show ¬ _
            have n1 := hZ.out; have n2 := hIS.out; have n3 := hIN.out; have n4 := HTR.out; have n5 := HS0.out; have n6 := HB.out; have n7 := HOb.out
            (try have mV59 := szV59.out)
            (try have mV58 := szV58.out)
            (try have mV55 := szV55.out)
            (try have mV49 := szV49.out)
            omega
          obtain ⟨z0, z1, z2⟩ := AZ.out.c3
          obtain ⟨y0, y1, y2⟩ := AZ.out.f3
          go_simp
          refine hK.out _ _ ?_ (fun hHeld => ?_)
          · (try dsimp only); exact ((HT.out.skip NZT.out _ _).skip NZT.out _ _).skip NZT.out _ _
          clear hK K
          refine wpAnyH_done (by kernel_rfl) ?_ _
          go_wp2_with fail
          go_meet
          have n1 := hZ.out; have n2 := hIS.out; have n3 := hIN.out; have n4 := HTR.out; have n5 := HS0.out; have n6 := HB.out; have n7 := HOb.out
          (try have mV59 := szV59.out)
          (try have mV58 := szV58.out)
          (try have mV55 := szV55.out)
          (try have mV49 := szV49.out)
          (try have m1 := lAS.out)
          (try have m2 := lAN.out)
          (try have m3 := lAZ.out)
          have l1 := AS.out.lt; have l2 := AN.out.lt; have l3 := AZ.out.lt
          have hOr := HOr.out; have hvo := HVo.out
          have nZ : Z ≠ F ∧ Z ≠ LV ∧ Z ≠ FL ∧ Z ≠ IS ∧ Z ≠ IN ∧ Z ≠ T ∧ Z ≠ R ∧ Z ≠ ob ∧ w.heap.size ≤ Z := by refine ⟨?_, ?_, ?_, ?_, ?_, ?_, ?_, ?_, ?_⟩ <;> omega
          obtain ⟨k1, k2, k3, k4, k5, k6, k7, k8, k9⟩ := nZ
          have nI : IS ≠ IN ∧ IS ≠ F ∧ IS ≠ FL ∧ IS ≠ ob ∧ IS ≠ T ∧ IN ≠ F ∧ IN ≠ FL ∧ IN ≠ ob ∧ IN ≠ T ∧ IS ≠ R ∧ IN ≠ R ∧ F ≠ R ∧ FL ≠ R ∧ ob ≠ R ∧ w.heap.size ≤ IS ∧ w.heap.size ≤ IN ∧ w.heap.size ≤ R := by refine ⟨?_, ?_, ?_, ?_, ?_, ?_, ?_, ?_, ?_, ?_, ?_, ?_, ?_, ?_, ?_, ?_, ?_⟩ <;> omega
          have hM2 := ((HM.out.skip (Z := Z) (by omega) k1 k2 k3 k9 0 (.pointer (some ⟨F, 0, none⟩))).skip (Z := Z) (by omega) k1 k2 k3 k9 1 (.slice (some ⟨IS, 0, none⟩) N N)).skip (Z := Z) (by omega) k1 k2 k3 k9 2 (.slice (some ⟨IN, 0, none⟩) N N)
          refine ⟨Z, F, FL, IS, IN, LV, base, ob, ocap, Lv, Fl, vo, vq, qq, rfl, hidb ⟨hM2, HS.out, hvo, ((hOr.put k8.symm _ _).put k8.symm _ _).put k8.symm _ _, ((HT.out.skip k6 _ _).skip k6 _ _).skip k6 _ _, At.fill3 (AZ.out.has rfl) _ _ _, ((HR3.out.set _ _ _).set _ _ _).set _ _ _, (by rw [← HCS.out.1]; exact ((AS.out.skip k4 _ _).skip k4 _ _).skip k4 _ _), (by rw [← HCS.out.2]; exact ((AN.out.skip k5 _ _).skip k5 _ _).skip k5 _ _), ⟨k1, k2, k3, k4, k5, k6, k7, k8, k9⟩, nI⟩⟩
      · skip
        go_simp
        refine hK.out _ _ ?_ (fun hHeld => ?_)
        · (try dsimp only); exact HT.out.alloc _
        clear hK K
        have szV60 : Hid ((V49.alloc (.cells CI 3)).heap.size = V49.heap.size + 1) := by show _ = _; simp
        have AN := hidb (At.newArr V49 CI 3)
        obtain ⟨IN, hIN⟩ : ∃ z, z = V49.heap.size := ⟨_, rfl⟩
        rw [← hIN] at AN ⊢
        replace hIN := hidb hIN
        replace HT := hidb (HT.out.alloc (.cells CI 3))
        replace HR3 := hidb (HR3.out.alloc (.cells CI 3))
        replace HG := hidb (HG.out.alloc (.cells CI 3))
        replace AZ := hidb (AZ.out.alloc (.cells CI 3))
        generalize V49.alloc (.cells CI 3) = V60 at *
        refine wpAnyH_ready (rs := [1, 5]) (by kernel_rfl) (by simp) ?_
        refine AllReadyH.cons rfl (fun K hK => ?_) (AllReadyH.cons rfl (fun K hK => ?_) AllReadyH.nil)
        · skip
          go_simp
          go_wp2_with (go_at_call 28; refine (HF.out _ HG.out).mono ?_; rintro e V61 ⟨F, base, LV, FL, Lv, Fl, vo, vq, qq, rfl, hM, hS⟩)
          refine hK.out _ _ ?_ (fun hHeld => ?_)
          · (try dsimp only); exact At.below hM.gr.out HT.out
          clear hK K
          have hbl := hM.gr.out
          replace HT := hidb (At.below hbl HT.out)
          replace HR3 := hidb (Has.below hbl HR3.out)
          have HB := hidb (show (V60.heap.size ≤ F ∧ V60.heap.size ≤ LV ∧ V60.heap.size ≤ FL) ∧ (F < base ∧ LV < base ∧ FL < base) ∧ base ≤ V61.heap.size ∧ V60.heap.size ≤ base from hM.b1)
          have lAN := hidb (AN.out.lt)
          replace AN := hidb (At.below hbl AN.out)
          have lAZ := hidb (AZ.out.lt)
          replace AZ := hidb (At.below hbl AZ.out)
          obtain ⟨ob, ocap, hvo, hOr⟩ := own_rs2 hM.ro (by rw [List.length_map]; exact HOl.out.2)
          have HOb := hidb (show base ≤ ob ∧ ob < V61.heap.size from ⟨(hM.ro.lt ob (by rw [hvo]; rfl)).1, hOr.lt⟩)
          have HVo := hidb hvo
          have HOr := hidb hOr
          clear hvo hOr
          have HM := hidb (FM.rebase HG.out hM)
          have HS := hidb hS
          replace HG := hidb (Gr.step HG.out hbl)
          clear hM hS hbl
          have HWc := hidb (Gr.refl V61)
          have HMc := hidb HM.out
          refine wpAnyH_ready (rs := [5]) (by kernel_rfl) (by simp) ?_
          refine AllReadyH.cons rfl (fun K hK => ?_) AllReadyH.nil
          go_simp
          refine hK.out _ _ ?_ (fun hHeld => ?_)
          · (try dsimp only); exact HT.out.alloc _
          clear hK K
          have szV62 : Hid ((V61.alloc (.cells CB 4)).heap.size = V61.heap.size + 1) := by show _ = _; simp
          have AS := hidb (At.newArr V61 CB 4)
          obtain ⟨IS, hIS⟩ : ∃ z, z = V61.heap.size := ⟨_, rfl⟩
          rw [← hIS] at AS ⊢
          replace hIS := hidb hIS
          replace HT := hidb (HT.out.alloc (.cells CB 4))
          replace HR3 := hidb (HR3.out.alloc (.cells CB 4))
          replace HG := hidb (HG.out.alloc (.cells CB 4))
          replace AN := hidb (AN.out.alloc (.cells CB 4))
          replace AZ := hidb (AZ.out.alloc (.cells CB 4))
          replace HM := hidb (HM.out.alloc (.cells CB 4))
          replace HOr := hidb (HOr.out.below ((Gr.refl _).alloc (.cells CB 4)).out)
          replace HWc := hidb (HWc.out.alloc (.cells CB 4))
          generalize V61.alloc (.cells CB 4) = V62 at *
          refine wpAnyH_take (i := 10) (v := ?vg10x2095) rfl (by kernel_rfl) (by kernel_rfl) (by kernel_rfl) (fun _ _ _ h => h) (Or.inl ⟨by kernel_rfl, ?hg10x2095⟩) (by assumption) ?rg10x2095
          case hg10x2095 => (intro w hSw; (try dsimp only at hSw); obtain ⟨x0, x1, x2⟩ := hSw.c3; go_simp; try with_reducible rfl)
          (try simp only [Act.put, List.getElem_toArray, List.getElem_cons_zero, List.getElem_cons_succ, List.setIfInBounds_toArray, List.set_cons_zero, List.set_cons_succ])
          refine wpAnyH_ready (rs := [12]) (by kernel_rfl) (by simp) ?_
          refine AllReadyH.cons rfl (fun K hK => ?_) AllReadyH.nil
          have NZT : Hid (¬ Z = T) := by
            show ¬ _
            have n1 := hZ.out; have n2 := hIS.out; have n3 := hIN.out; have n4 := HTR.out; have n5 := HS0.out; have n6 := HB.out; have n7 := HOb.out
            (try have mV62 := szV62.out)
            (try have mV61 := szV61.out)
            (try have mV60 := szV60.out)
            (try have mV49 := szV49.out)
            omega
          obtain ⟨z0, z1, z2⟩ := AZ.out.c3
          obtain ⟨y0, y1, y2⟩ := AZ.out.f3
          go_simp
          refine hK.out _ _ ?_ (fun hHeld => ?_)
          · (try dsimp only); exact ((HT.out.skip NZT.out _ _).skip NZT.out _ _).skip NZT.out _ _
          clear hK K
          refine wpAnyH_done (by kernel_rfl) ?_ _
          go_wp2_with fail
          go_meet
          have n1 := hZ.out; have n2 := hIS.out; have n3 := hIN.out; have n4 := HTR.out; have n5 := HS0.out; have n6 := HB.out; have n7 := HOb.out
          (try have mV62 := szV62.out)
          (try have mV61 := szV61.out)
          (try have mV60 := szV60.out)
          (try have mV49 := szV49.out)
          (try have m1 := lAS.out)
          (try have m2 := lAN.out)
          (try have m3 := lAZ.out)
          have l1 := AS.out.lt; have l2 := AN.out.lt; have l3 := AZ.out.lt
          have hOr := HOr.out; have hvo := HVo.out
          have nZ : Z ≠ F ∧ Z ≠ LV ∧ Z ≠ FL ∧ Z ≠ IS ∧ Z ≠ IN ∧ Z ≠ T ∧ Z ≠ R ∧ Z ≠ ob ∧ w.heap.size ≤ Z := by refine ⟨?_, ?_, ?_, ?_, ?_, ?_, ?_, ?_, ?_⟩ <;> omega
          obtain ⟨k1, k2, k3, k4, k5, k6, k7, k8, k9⟩ := nZ
          have nI : IS ≠ IN ∧ IS ≠ F ∧ IS ≠ FL ∧ IS ≠ ob ∧ IS ≠ T ∧ IN ≠ F ∧ IN ≠ FL ∧ IN ≠ ob ∧ IN ≠ T ∧ IS ≠ R ∧ IN ≠ R ∧ F ≠ R ∧ FL ≠ R ∧ ob ≠ R ∧ w.heap.size ≤ IS ∧ w.heap.size ≤ IN ∧ w.heap.size ≤ R := by refine ⟨?_, ?_, ?_, ?_, ?_, ?_, ?_, ?_, ?_, ?_, ?_, ?_, ?_, ?_, ?_, ?_, ?_⟩ <;> omega
          have hM2 := ((HM.out.skip (Z := Z) (by omega) k1 k2 k3 k9 0 (.pointer (some ⟨F, 0, none⟩))).skip (Z := Z) (by omega) k1 k2 k3 k9 1 (.slice (some ⟨IS, 0, none⟩) N N)).skip (Z := Z) (by omega) k1 k2 k3 k9 2 (.slice (some ⟨IN, 0, none⟩) N N)
          refine ⟨Z, F, FL, IS, IN, LV, base, ob, ocap, Lv, Fl, vo, vq, qq, rfl, hidb ⟨hM2, HS.out, hvo, ((hOr.put k8.symm _ _).put k8.symm _ _).put k8.symm _ _, ((HT.out.skip k6 _ _).skip k6 _ _).skip k6 _ _, At.fill3 (AZ.out.has rfl) _ _ _, ((HR3.out.set _ _ _).set _ _ _).set _ _ _, (by rw [← HCS.out.1]; exact ((AS.out.skip k4 _ _).skip k4 _ _).skip k4 _ _), (by rw [← HCS.out.2]; exact ((AN.out.skip k5 _ _).skip k5 _ _).skip k5 _ _), ⟨k1, k2, k3, k4, k5, k6, k7, k8, k9⟩, nI⟩⟩
        · skip
          go_simp
          refine hK.out _ _ ?_ (fun hHeld => ?_)
          · (try dsimp only); exact HT.out.alloc _
          clear hK K
          have szV63 : Hid ((V60.alloc (.cells CB 4)).heap.size = V60.heap.size + 1) := by show _ = _; simp
          have AS := hidb (At.newArr V60 CB 4)
          obtain ⟨IS, hIS⟩ : ∃ z, z = V60.heap.size := ⟨_, rfl⟩
          rw [← hIS] at AS ⊢
          replace hIS := hidb hIS
          replace HT := hidb (HT.out.alloc (.cells CB 4))
          replace HR3 := hidb (HR3.out.alloc (.cells CB 4))
          replace HG := hidb (HG.out.alloc (.cells CB 4))
          replace AN := hidb (AN.out.alloc (.cells CB 4))
          replace AZ := hidb (AZ.out.alloc (.cells CB 4))
          generalize V60.alloc (.cells CB 4) = V63 at *
          refine wpAnyH_ready (rs := [1]) (by kernel_rfl) (by simp) ?_
          refine AllReadyH.cons rfl (fun K hK => ?_) AllReadyH.nil
          go_simp
          go_wp2_with (go_at_call 28; refine (HF.out _ HG.out).mono ?_; rintro e V64 ⟨F, base, LV, FL, Lv, Fl, vo, vq, qq, rfl, hM, hS⟩)
          refine hK.out _ _ ?_ (fun hHeld => ?_)
          · (try dsimp only); exact At.below hM.gr.out HT.out
          clear hK K
          have hbl := hM.gr.out
          replace HT := hidb (At.below hbl HT.out)
          replace HR3 := hidb (Has.below hbl HR3.out)
          have HB := hidb (show (V63.heap.size ≤ F ∧ V63.heap.size ≤ LV ∧ V63.heap.size ≤ FL) ∧ (F < base ∧ LV < base ∧ FL < base) ∧ base ≤ V64.heap.size ∧ V63.heap.size ≤ base from hM.b1)
          have lAS := hidb (AS.out.lt)
          replace AS := hidb (At.below hbl AS.out)
          have lAN := hidb (AN.out.lt)
          replace AN := hidb (At.below hbl AN.out)
          have lAZ := hidb (AZ.out.lt)
          replace AZ := hidb (At.below hbl AZ.out)
          obtain ⟨ob, ocap, hvo, hOr⟩ := own_rs2 hM.ro (by rw [List.length_map]; exact HOl.out.2)
          have HOb := hidb (show base ≤ ob ∧ ob < V64.heap.size from ⟨(hM.ro.lt ob (by rw [hvo]; rfl)).1, hOr.lt⟩)
          have HVo := hidb hvo
          have HOr := hidb hOr
          clear hvo hOr
          have HM := hidb (FM.rebase HG.out hM)
          have HS := hidb hS
          replace HG := hidb (Gr.step HG.out hbl)
          clear hM hS hbl
          have HWc := hidb (Gr.refl V64)
          have HMc := hidb HM.out
          refine wpAnyH_take (i := 10) (v := ?vg10x2176) rfl (by kernel_rfl) (by kernel_rfl) (by kernel_rfl) (fun _ _ _ h => h) (Or.inl ⟨by kernel_rfl, ?hg10x2176⟩) (by assumption) ?rg10x2176
          case hg10x2176 => (intro w hSw; (try dsimp only at hSw); obtain ⟨x0, x1, x2⟩ := hSw.c3; go_simp; try with_reducible rfl)
          (try simp only [Act.put, List.getElem_toArray, List.getElem_cons_zero, List.getElem_cons_succ, List.setIfInBounds_toArray, List.set_cons_zero, List.set_cons_succ])
          refine wpAnyH_ready (rs := [12]) (by kernel_rfl) (by simp) ?_
          refine AllReadyH.cons rfl (fun K hK => ?_) AllReadyH.nil
          have NZT : Hid (¬ Z = T) := by
            show ¬ _
            have n1 := hZ.out; have n2 := hIS.out; have n3 := hIN.out; have n4 := HTR.out; have n5 := HS0.out; have n6 := HB.out; have n7 := HOb.out
            (try have mV64 := szV64.out)
            (try have mV63 := szV63.out)
            (try have mV60 := szV60.out)
            (try have mV49 := szV49.out)
            omega
          obtain ⟨z0, z1, z2⟩ := AZ.out.c3
          obtain ⟨y0, y1, y2⟩ := AZ.out.f3
          go_simp
          refine hK.out _ _ ?_ (fun hHeld => ?_)
          · (try dsimp only); exact ((HT.out.skip NZT.out _ _).skip NZT.out _ _).skip NZT.out _ _
          clear hK K
          refine wpAnyH_done (by kernel_rfl) ?_ _
          go_wp2_with fail
          go_meet
          have n1 := hZ.out; have n2 := hIS.out; have n3 := hIN.out; have n4 := HTR.out; have n5 := HS0.out; have n6 := HB.out; have n7 := HOb.out
          (try have mV64 := szV64.out)
          (try have mV63 := szV63.out)
          (try have mV60 := szV60.out)
          (try have mV49 := szV49.out)
          (try have m1 := lAS.out)
          (try have m2 := lAN.out)
          (try have m3 := lAZ.out)
          have l1 := AS.out.lt; have l2 := AN.out.lt; have l3 := AZ.out.lt
          have hOr := HOr.out; have hvo := HVo.out
          have nZ : Z ≠ F ∧ Z ≠ LV ∧ Z ≠ FL ∧ Z ≠ IS ∧ Z ≠ IN ∧ Z ≠ T ∧ Z ≠ R ∧ Z ≠ ob ∧ w.heap.size ≤ Z := by refine ⟨?_, ?_, ?_, ?_, ?_, ?_, ?_, ?_, ?_⟩ <;> omega
          obtain ⟨k1, k2, k3, k4, k5, k6, k7, k8, k9⟩ := nZ
          have nI : IS ≠ IN ∧ IS ≠ F ∧ IS ≠ FL ∧ IS ≠ ob ∧ IS ≠ T ∧ IN ≠ F ∧ IN ≠ FL ∧ IN ≠ ob ∧ IN ≠ T ∧ IS ≠ R ∧ IN ≠ R ∧ F ≠ R ∧ FL ≠ R ∧ ob ≠ R ∧ w.heap.size ≤ IS ∧ w.heap.size ≤ IN ∧ w.heap.size ≤ R := by refine ⟨?_, ?_, ?_, ?_, ?_, ?_, ?_, ?_, ?_, ?_, ?_, ?_, ?_, ?_, ?_, ?_, ?_⟩ <;> omega
          have hM2 := ((HM.out.skip (Z := Z) (by omega) k1 k2 k3 k9 0 (.pointer (some ⟨F, 0, none⟩))).skip (Z := Z) (by omega) k1 k2 k3 k9 1 (.slice (some ⟨IS, 0, none⟩) N N)).skip (Z := Z) (by omega) k1 k2 k3 k9 2 (.slice (some ⟨IN, 0, none⟩) N N)
          refine ⟨Z, F, FL, IS, IN, LV, base, ob, ocap, Lv, Fl, vo, vq, qq, rfl, hidb ⟨hM2, HS.out, hvo, ((hOr.put k8.symm _ _).put k8.symm _ _).put k8.symm _ _, ((HT.out.skip k6 _ _).skip k6 _ _).skip k6 _ _, At.fill3 (AZ.out.has rfl) _ _ _, ((HR3.out.set _ _ _).set _ _ _).set _ _ _, (by rw [← HCS.out.1]; exact ((AS.out.skip k4 _ _).skip k4 _ _).skip k4 _ _), (by rw [← HCS.out.2]; exact ((AN.out.skip k5 _ _).skip k5 _ _).skip k5 _ _), ⟨k1, k2, k3, k4, k5, k6, k7, k8, k9⟩, nI⟩⟩
  case rest =>
    clear HT HG HR3 HF HCS
    obtain ⟨Z, F, FL, IS, IN, LV, base, ob, ocap, Lv, Fl, vo, vq, qq, rfl, E⟩ := hcut
    go_upto_region 7 with fail
    refine wp_region_held_drew (S := (fun w' => At w' T [.int .i64 (m : Int), .int .i64 (n : Int), .slice (some ⟨Lb, Lo, none⟩) N Lcap] ∧ At w' Z [.pointer (some ⟨F, 0, none⟩), .slice (some ⟨IS, 0, none⟩) N N, .slice (some ⟨IN, 0, none⟩) N N])) (by kernel_rfl) ?_ (fun hHeld => ?_)
    · (try dsimp only); exact ⟨E.out.t.drew, E.out.z.drew⟩
    replace E := hidb (E.out.below (Gr.refl wc).drew.out)
    generalize wc.drew = U0 at *
    refine wpAnyH_take (i := 0) (v := ?vh0x4) rfl (by kernel_rfl) (by kernel_rfl) (by kernel_rfl) (fun _ _ _ h => h) (Or.inl ⟨by kernel_rfl, ?hh0x4⟩) (by assumption) ?rh0x4
    case hh0x4 => (intro w hSw; (try dsimp only at hSw); obtain ⟨hS1, hS2⟩ := hSw; obtain ⟨x0, x1, x2⟩ := hS1.c3; obtain ⟨y0, y1, y2⟩ := hS2.c3; go_simp; try with_reducible rfl)
    (try simp only [Act.put, List.getElem_toArray, List.getElem_cons_zero, List.setIfInBounds_toArray, List.set_cons_zero, List.set_cons_succ])
    refine wpAnyH_take (i := 1) (v := ?vh1x7) rfl (by kernel_rfl) (by kernel_rfl) (by kernel_rfl) (fun _ _ _ h => h) (Or.inl ⟨by kernel_rfl, ?hh1x7⟩) (by assumption) ?rh1x7
    case hh1x7 => (intro w hSw; (try dsimp only at hSw); obtain ⟨hS1, hS2⟩ := hSw; obtain ⟨x0, x1, x2⟩ := hS1.c3; obtain ⟨y0, y1, y2⟩ := hS2.c3; go_simp; try with_reducible rfl)
    (try simp only [Act.put, List.getElem_toArray, List.getElem_cons_zero, List.getElem_cons_succ, List.setIfInBounds_toArray, List.set_cons_zero, List.set_cons_succ])
    refine wpAnyH_take (i := 3) (v := ?vh3x10) rfl (by kernel_rfl) (by kernel_rfl) (by kernel_rfl) (fun _ _ _ h => h) (Or.inl ⟨by kernel_rfl, ?hh3x10⟩) (by assumption) ?rh3x10
    case hh3x10 => (intro w hSw; (try dsimp only at hSw); obtain ⟨hS1, hS2⟩ := hSw; obtain ⟨x0, x1, x2⟩ := hS1.c3; obtain ⟨y0, y1, y2⟩ := hS2.c3; go_simp; try with_reducible rfl)
    (try simp only [Act.put, List.getElem_toArray, List.getElem_cons_zero, List.getElem_cons_succ, List.setIfInBounds_toArray, List.set_cons_zero, List.set_cons_succ])
    refine wpAnyH_take (i := 4) (v := ?vh4x13) rfl (by kernel_rfl) (by kernel_rfl) (by kernel_rfl) (fun _ _ _ h => h) (Or.inl ⟨by kernel_rfl, ?hh4x13⟩) (by assumption) ?rh4x13
    case hh4x13 => (intro w hSw; (try dsimp only at hSw); obtain ⟨hS1, hS2⟩ := hSw; obtain ⟨x0, x1, x2⟩ := hS1.c3; obtain ⟨y0, y1, y2⟩ := hS2.c3; go_simp; try with_reducible rfl)
    (try simp only [Act.put, List.getElem_toArray, List.getElem_cons_zero, List.getElem_cons_succ, List.setIfInBounds_toArray, List.set_cons_zero, List.set_cons_succ])
    refine wpAnyH_take (i := 5) (v := ?vh5x16) rfl (by kernel_rfl) (by kernel_rfl) (by kernel_rfl) (fun _ _ _ h => h) (Or.inl ⟨by kernel_rfl, ?hh5x16⟩) (by assumption) ?rh5x16
    case hh5x16 => (intro w hSw; (try dsimp only at hSw); obtain ⟨hS1, hS2⟩ := hSw; obtain ⟨x0, x1, x2⟩ := hS1.c3; obtain ⟨y0, y1, y2⟩ := hS2.c3; go_simp; try with_reducible rfl)
    (try simp only [Act.put, List.getElem_toArray, List.getElem_cons_zero, List.getElem_cons_succ, List.setIfInBounds_toArray, List.set_cons_zero, List.set_cons_succ])
    refine wpAnyH_take (i := 9) (v := ?vh9x19) rfl (by kernel_rfl) (by kernel_rfl) (by kernel_rfl) (fun _ _ _ h => h) (Or.inl ⟨by kernel_rfl, ?hh9x19⟩) (by assumption) ?rh9x19
    case hh9x19 => (intro w hSw; (try dsimp only at hSw); obtain ⟨hS1, hS2⟩ := hSw; obtain ⟨x0, x1, x2⟩ := hS1.c3; obtain ⟨y0, y1, y2⟩ := hS2.c3; go_simp; try with_reducible rfl)
    (try simp only [Act.put, List.getElem_toArray, List.getElem_cons_zero, List.getElem_cons_succ, List.setIfInBounds_toArray, List.set_cons_zero, List.set_cons_succ])
    refine wpAnyH_ready (rs := [2]) (by kernel_rfl) (by simp) ?_
    refine AllReadyH.cons rfl (fun K hK => ?_) AllReadyH.nil
    go_simp
    refine hK.out _ _ ?_ (fun hHeld => ?_)
    · (try dsimp only); exact ⟨E.out.t.alloc _, E.out.z.alloc _⟩
    clear hK K
    have AB := hidb (At.new1 U0 (.int .i64 1) 3)
    obtain ⟨B1, hB1⟩ : ∃ z, z = U0.heap.size := ⟨_, rfl⟩
    rw [← hB1] at AB ⊢
    clear hB1
    replace E := hidb (E.out.below ((Gr.refl _).alloc (.cells #[.int .i64 1] 3)).out)
    generalize U0.alloc (.cells #[.int .i64 1] 3) = V65 at *
    refine wpAnyH_ready (rs := [6]) (by kernel_rfl) (by simp) ?_
    refine AllReadyH.cons rfl (fun K hK => ?_) AllReadyH.nil
    go_simp
    go_wp2_with (go_at_call 30; refine (HRp.out B1 _ AB.out).mono ?_; rintro e V66 ⟨C, rfl, hC, -, hBc⟩)
    refine hK.out _ _ ?_ (fun hHeld => ?_)
    · (try dsimp only); exact ⟨At.below hBc.out E.out.t, At.below hBc.out E.out.z⟩
    clear hK K
    replace E := hidb (E.out.below hBc.out)
    have AC := hidb hC
    clear hC hBc AB
    refine wpAnyH_ready (rs := [7]) (by kernel_rfl) (by simp) ?_
    refine AllReadyH.cons rfl (fun K hK => ?_) AllReadyH.nil
    go_simp
    go_wp2_with (go_at_call 29; refine (HGa.out _ F base LV FL Lv Fl vo vq qq E.out.fm E.out.sy C AC.out).mono ?_; rintro e V67 ⟨OUT, cp, rfl, hO, hOs, hBo⟩)
    refine hK.out _ _ ?_ (fun hHeld => ?_)
    · (try dsimp only); exact ⟨At.below hBo.out E.out.t, At.below hBo.out E.out.z⟩
    clear hK K
    have nO := hidb hOs
    have kE := hidb (show Z < V66.heap.size ∧ T < V66.heap.size ∧ IS < V66.heap.size ∧ IN < V66.heap.size from ⟨E.out.z.lt, E.out.t.lt, E.out.bs.lt, E.out.is.lt⟩)
    replace E := hidb (E.out.below hBo.out)
    have AO := hidb hO
    clear hO hOs hBo AC
    refine wpAnyH_take (i := 8) (v := ?vh8x56) rfl (by kernel_rfl) (by kernel_rfl) (by kernel_rfl) (fun _ _ _ h => h) (Or.inl ⟨by kernel_rfl, ?hh8x56⟩) (by assumption) ?rh8x56
    case hh8x56 => (intro w hSw; (try dsimp only at hSw); obtain ⟨hS1, hS2⟩ := hSw; obtain ⟨x0, x1, x2⟩ := hS1.c3; obtain ⟨y0, y1, y2⟩ := hS2.c3; go_simp; try with_reducible rfl)
    (try simp only [Act.put, List.getElem_toArray, List.getElem_cons_zero, List.getElem_cons_succ, List.setIfInBounds_toArray, List.set_cons_zero, List.set_cons_succ])
    refine wpAnyH_done (by kernel_rfl) ?_ _
    obtain ⟨⟨i1, i2, i3, i4, i5, i6, i7, i8, i9, j1, j2, j3, j4, j5, j6, j7, j8⟩, ⟨r1, r2, r3, r4, r5, r6, r7, r8, r9⟩⟩ := And.intro E.out.n2 E.out.n1
    have hOb : ob < base ∨ base ≤ ob := by omega
    have E0 : Hid (SL w V67 T Z R OUT F FL IS IN ob ocap [.int .i64 (m : Int), .int .i64 (n : Int), .slice (some ⟨Lb, Lo, none⟩) N Lcap] [.pointer (some ⟨F, 0, none⟩), .slice (some ⟨IS, 0, none⟩) N N, .slice (some ⟨IN, 0, none⟩) N N] (fsV m n Lb Lo Lcap N LV FL (.slice (some ⟨ob, 0, none⟩) N ocap) vq) Fl (on (flo m n l N).ord) (iF N (gaV m n l (fun _ => 1))) (bF N (bsK m n l q 0)) (iF N (fun c => (inK m n l q 0 c : Int)))) := by
      obtain ⟨p1, p2, p3, p4⟩ := kE.out
      have p0 := nO.out
      refine ⟨E.out.t, E.out.z, E.out.r, AO.out, ⟨?_, E.out.fm.fl⟩, E.out.o, ?_, ?_, E.out.fm.gr, ⟨⟨i5.symm, r4, ?_, i2.symm, i3.symm, i4.symm⟩, ⟨i9.symm, r5, ?_, i6.symm, i7.symm, i8.symm⟩, i1, j6, j7⟩, ⟨⟨j3, j4, j5, j1, j2⟩, j8⟩⟩
      · have := E.out.fm.f
        rw [E.out.ev, List.length_map, HOl.out.1] at this
        exact this
      · rw [← bF_congr (f := fun _ => false) (g := bsK m n l q 0) (fun k _ => by simp [bsK]), ← bF_rep]; exact E.out.bs
      · rw [← iF_congr (f := fun _ => 0) (g := fun c => (inK m n l q 0 c : Int)) (fun k _ => by simp [inK]), ← iF_rep]; exact E.out.is
      · omega
      · omega
    have HFe : Hid (FlE m n l Fl) := by
      refine ⟨by rw [E.out.fm.ll.2]; exact HN.out, ?_⟩
      have := E.out.sy.fl
      rw [HN.out] at this
      exact this
    clear E nO kE AO HGa HRp i1 i2 i3 i4 i5 i6 i7 i8 i9 j1 j2 j3 j4 j5 j6 j7 j8 r1 r2 r3 r4 r5 r6 r7 r8 r9 hOb mkB mkI
    generalize hG1 : iF N (gaV m n l (fun _ => 1)) = G at E0
    have HGv : Hid (G = iF N (gaV m n l (fun _ => 1))) := hG1.symm
    clear hG1
    generalize V67 = w9 at *
    generalize hcp : cp = cp9 at *
    clear hcp
    go_wp2
    go_loopw [42] (fun t wr => ∃ k : Nat, k ≤ N ∧ t = .int .i64 (k : Int) ∧ Hid (SL w wr T Z R OUT F FL IS IN ob ocap [.int .i64 (m : Int), .int .i64 (n : Int), .slice (some ⟨Lb, Lo, none⟩) N Lcap] [.pointer (some ⟨F, 0, none⟩), .slice (some ⟨IS, 0, none⟩) N N, .slice (some ⟨IN, 0, none⟩) N N] (fsV m n Lb Lo Lcap N LV FL (.slice (some ⟨ob, 0, none⟩) N ocap) vq) Fl (on (flo m n l N).ord) G (bF N (bsK m n l q k)) (iF N (fun c => (inK m n l q k c : Int))))) (fun t _ => N - (intOf t).toNat)
    case atStart => exact ⟨0, Nat.zero_le _, rfl, E0⟩
    case round =>
      clear E0
      obtain ⟨k, hk, rfl, E⟩ := hrel
      obtain ⟨z0, z1, z2⟩ := E.out.z.c3
      by_cases h1 : k < N
      · have h1' : (k : Int) < (N : Int) := by omega
        have e1 : IntKind.i64.wrap ((k : Int) + 1) = ((k + 1 : Nat) : Int) := by rw [show (k : Int) + 1 = ((k + 1 : Nat) : Int) by omega]; exact wrap_in (by have := HL.out; omega) (by have := HL.out; omega)
        have ixO := iindex OUT 0 N cp9 k h1
        rw [Nat.zero_add] at ixO
        have cO : wr.cell? ⟨OUT, k, none⟩ = some (.int .i64 (gaV m n l (fun _ => 1) k)) := by have := E.out.u; rw [HGv.out] at this; exact (this.gi h1).1
        obtain ⟨y, hy⟩ : ∃ y, y = gaV m n l (fun _ => 1) k := ⟨_, rfl⟩
        have HY := hidb hy
        rw [← hy] at cO
        have H1 := hidb h1
        by_cases hst : q ≤ y
        · have hlt : ¬ y < q := by omega
          have HSt : Hid (stB m n l q k = true) := decide_eq_true (by rw [← HY.out]; exact hst)
          have ixS := bindex IS N N k h1
          have fS := (E.out.s.gb h1).2
          have cS := (E.out.s.gb h1).1
          have hset : Hid ((bF N (bsK m n l q k)).set k true = bF N (bsK m n l q (k + 1))) := bF_set _ _ _ (fun c _ => by rw [bsK_yes HSt.out])
          generalize bsK m n l q k k = bk at cS
          have E2 := hidb (E.out.putS k true)
          rw [hset.out] at E2
          have HNk := hidb (fun W h => HNx.out W F FL LV (.slice (some ⟨ob, 0, none⟩) N ocap) vq Fl h HFe.out k H1.out)
          rw [nxO_tw] at HNk
          clear hst hy E hset h1
          go_upto_region 12 with fail
          generalize wr.setCell ⟨IS, k, none⟩ (.bool true) = w3 at *
          clear z0 z1 z2 cO cS fS
          obtain ⟨z0, z1, z2⟩ := E2.out.z.c3
          have ht := HTl.out k H1.out
          generalize htk : tw m n l k = t at *
          have HTk := hidb htk
          clear htk
          by_cases hf : t = k
          · rw [if_pos hf] at HNk
            unfold nbA at HNk
            have hset2 : Hid (iF N (fun c => (inK m n l q k c : Int)) = iF N (fun c => (inK m n l q (k + 1) c : Int))) := iF_congr (fun c _ => by rw [inK_at HSt.out, HTk.out, if_neg (fun x => x.2 hf)])
            rw [hset2.out] at E2
            clear hf ht hset2
            go_wp2_with fail
            refine (HNk.out _ E2.out.nf).mono ?_
            rintro e w4 ⟨rfl, hB4⟩
            replace E2 := hidb (E2.out.below hB4.out)
            clear hB4 z0 z1 z2
            go_wp2
            go_roundw
            case rel => exact ⟨k + 1, H1.out, by go_num, E2⟩
            case measure => have := H1.out; simp [intOf]; omega
          · rw [if_neg hf] at HNk
            unfold nbA at HNk
            dsimp only at HNk
            have hset2 : Hid ((iF N (fun c => (inK m n l q k c : Int))).set t ((inK m n l q k t : Int) + 1) = iF N (fun c => (inK m n l q (k + 1) c : Int))) := iF_set _ _ _ (fun c _ => by
              rw [inK_at HSt.out, HTk.out]
              by_cases e : c = t
              · rw [if_pos ⟨e, hf⟩, if_pos e, e]; omega
              · rw [if_neg (fun x => e x.1), if_neg e])
            have ixI := iindex IN 0 N N t ht
            rw [Nat.zero_add] at ixI
            have hin := inK_le m n l q k t
            obtain ⟨yN, hyN, e2⟩ : ∃ z : Int, z = (inK m n l q k t : Int) + 1 ∧ IntKind.i64.wrap ((inK m n l q k t : Int) + 1) = z := ⟨_, rfl, wrap_in (by omega) (by have := HL.out; have := H1.out; omega)⟩
            have HEn : Hid (∀ W, SL w W T Z R OUT F FL IS IN ob ocap [.int .i64 (m : Int), .int .i64 (n : Int), .slice (some ⟨Lb, Lo, none⟩) N Lcap] [.pointer (some ⟨F, 0, none⟩), .slice (some ⟨IS, 0, none⟩) N N, .slice (some ⟨IN, 0, none⟩) N N] (fsV m n Lb Lo Lcap N LV FL (.slice (some ⟨ob, 0, none⟩) N ocap) vq) Fl (on (flo m n l N).ord) G (bF N (bsK m n l q (k + 1))) (iF N (fun c => (inK m n l q k c : Int))) → SL w (W.setCell ⟨IN, t, none⟩ (.int .i64 yN)) T Z R OUT F FL IS IN ob ocap [.int .i64 (m : Int), .int .i64 (n : Int), .slice (some ⟨Lb, Lo, none⟩) N Lcap] [.pointer (some ⟨F, 0, none⟩), .slice (some ⟨IS, 0, none⟩) N N, .slice (some ⟨IN, 0, none⟩) N N] (fsV m n Lb Lo Lcap N LV FL (.slice (some ⟨ob, 0, none⟩) N ocap) vq) Fl (on (flo m n l N).ord) G (bF N (bsK m n l q (k + 1))) (iF N (fun c => (inK m n l q (k + 1) c : Int)))) := fun W h => by
              have := h.putI t yN
              rw [hyN, hset2.out, ← hyN] at this
              exact this
            have HTt := hidb ht
            have HCk : Hid (∀ W, SL w W T Z R OUT F FL IS IN ob ocap [.int .i64 (m : Int), .int .i64 (n : Int), .slice (some ⟨Lb, Lo, none⟩) N Lcap] [.pointer (some ⟨F, 0, none⟩), .slice (some ⟨IS, 0, none⟩) N N, .slice (some ⟨IN, 0, none⟩) N N] (fsV m n Lb Lo Lcap N LV FL (.slice (some ⟨ob, 0, none⟩) N ocap) vq) Fl (on (flo m n l N).ord) G (bF N (bsK m n l q (k + 1))) (iF N (fun c => (inK m n l q k c : Int))) → W.cell? ⟨IN, t, none⟩ = some (.int .i64 (inK m n l q k t : Int)) ∧ W.frozen? ⟨IN, t, none⟩ = false) := fun W h => h.i.gi HTt.out
            generalize (inK m n l q k t : Int) = yk at *
            clear hf ht hset2 hin hyN
            go_wp2_with fail
            refine (HNk.out _ E2.out.nf).mono ?_
            rintro e w4 ⟨rfl, hB4⟩
            replace E2 := hidb (E2.out.below hB4.out)
            clear hB4 z0 z1 z2
            obtain ⟨z0, z1, z2⟩ := E2.out.z.c3
            obtain ⟨cI, fI⟩ := HCk.out _ E2.out
            replace E2 := hidb (HEn.out _ E2.out)
            go_wp2
            go_roundw
            case rel => exact ⟨k + 1, H1.out, by go_num, E2⟩
            case measure => have := H1.out; simp [intOf]; omega
        · have hlt : y < q := by omega
          have HSt : Hid (stB m n l q k = false) := decide_eq_false (by rw [← HY.out]; exact hst)
          have hset : Hid (bF N (bsK m n l q k) = bF N (bsK m n l q (k + 1))) := bF_congr (fun c _ => by rw [bsK_no HSt.out])
          have hset2 : Hid (iF N (fun c => (inK m n l q k c : Int)) = iF N (fun c => (inK m n l q (k + 1) c : Int))) := iF_congr (fun c _ => by rw [inK_up HSt.out])
          rw [hset.out, hset2.out] at E
          clear hst hy h1 hset hset2 z0 z1 z2
          go_wp2
          go_roundw
          case rel => exact ⟨k + 1, H1.out, by go_num, E⟩
          case measure => have := H1.out; simp [intOf]; omega
      · have h1' : ¬ (k : Int) < (N : Int) := by omega
        have hkN : k = N := by omega
        have hset : Hid (bF N (bsK m n l q k) = bF N (stB m n l q)) := bF_congr (fun c hc => by simp [bsK, show c < k by omega])
        rw [hset.out, hkN] at E
        obtain ⟨ra, rb2, rc, hRr⟩ := E.out.r.three
        obtain ⟨x0, x1, x2⟩ := hRr.c3
        obtain ⟨y0, y1, y2⟩ := hRr.f3
        have HZ : Hid (∀ u v x, SE (((wr.setCell ⟨R, 0, none⟩ u).setCell ⟨R, 1, none⟩ v).setCell ⟨R, 2, none⟩ x) m n Lb Lo Lcap l q F FL IS IN LV ob ocap vq Fl ∧ Gr w (((wr.setCell ⟨R, 0, none⟩ u).setCell ⟨R, 1, none⟩ v).setCell ⟨R, 2, none⟩ x)) := fun u v x => by
          obtain ⟨⟨a1, a2, a3, a4, a5⟩, a6⟩ := E.out.n2
          have s3 : ∀ {B : Nat} {L : List Value}, At wr B L → B ≠ R → At (((wr.setCell ⟨R, 0, none⟩ u).setCell ⟨R, 1, none⟩ v).setCell ⟨R, 2, none⟩ x) B L := fun h hn => ((h.skip hn.symm _ _).skip hn.symm _ _).skip hn.symm _ _
          refine ⟨⟨⟨?_, s3 E.out.nf.fl a2⟩, HFe.out, ((?_ : Rs wr ob 0 ocap (on (flo m n l l.length).ord)).put a3 _ _ |>.put a3 _ _).put a3 _ _, ?_, ?_⟩, ((E.out.gr.set a6 _ _).set a6 _ _).set a6 _ _⟩
          · rw [← HN.out]; exact s3 E.out.nf.f a1
          · rw [← HN.out]; exact E.out.o
          · rw [← HN.out]; exact s3 E.out.s a4
          · rw [← HN.out]; exact s3 E.out.i a5
        clear h1 hkN hset E hRr
        go_wp2
        refine bodyPost_ret (v := .tuple #[.agg #[.pointer (some ⟨F, 0, none⟩), .slice (some ⟨IS, 0, none⟩) N N, .slice (some ⟨IN, 0, none⟩) N N], .nilIface]) (by simp [results, Tryd.results15, go_sem, x0, x1, x2]) rfl ?_
        exact ⟨F, IS, IN, rfl, ⟨FL, LV, ob, ocap, vq, Fl, (HZ.out _ _ _).1⟩, (HZ.out _ _ _).2⟩

end Go.Proofs.YtlhligeicnejbaaDoor
