import Derived.Deep.RegionLaw
import Derived.Test.YtpkiefjanmfgfaaGreatDoorAll04
namespace Go.Proofs.YtpkiefjanmfgfaaGreatDoor
section
open Go.RowKit

def pickL (fk:Nat) (l:List Hit) (first below:Nat):Nat:=if below < l.length∧ahead fk (nth l below) (nth l first) = true then below else first
def downL (fk:Nat):Nat→List Hit→Nat→List Hit
  | 0,l,_=>l
  | n + 1,l,at_ =>
    if pickL fk l (pickL fk l at_ (2 * at_ + 1)) (2 * at_ + 2) = at_ then l
    else downL fk n (swapL l at_ (pickL fk l (pickL fk l at_ (2 * at_ + 1)) (2 * at_ + 2))) (pickL fk l (pickL fk l at_ (2 * at_ + 1)) (2 * at_ + 2))
theorem downL_length (fk:Nat):∀ n l a,(downL fk n l a).length = l.length
  | 0,_,_=>rfl
  | n + 1,l,a=>by
    unfold downL
    split
    · rfl
    · rw [downL_length,swapL_length]

theorem pickL_lt {fk:Nat} {l:List Hit} {a b:Nat} (ha:a < l.length):pickL fk l a b < l.length:=by
  unfold pickL
  split
  · rename_i h; exact h.1
  · exact ha
theorem pickL_or (fk:Nat) (l:List Hit) (a b:Nat):pickL fk l a b = a ∨ pickL fk l a b = b:=by
  unfold pickL
  split
  · exact .inr rfl
  · exact .inl rfl
theorem pick2_gt {fk:Nat} {l:List Hit} {a:Nat} (h:pickL fk l (pickL fk l a (2 * a + 1)) (2 * a + 2) ≠ a):a < pickL fk l (pickL fk l a (2 * a + 1)) (2 * a + 2):=by
  rcases pickL_or fk l (pickL fk l a (2 * a + 1)) (2 * a + 2) with h1 | h1
  · rcases pickL_or fk l a (2 * a + 1) with h2 | h2
    · rw [h1,h2] at h; exact absurd rfl h
    · rw [h1,h2]; omega
  · rw [h1]; omega
theorem downL_fuel (fk:Nat):∀ (n m:Nat) (l:List Hit) (a:Nat),a < l.length→l.length≤a + n→l.length≤a + m→downL fk n l a = downL fk m l a
  | 0,_,l,a,ha,hn,_=>by omega
  | _ + 1,0,l,a,ha,_,hm=>by omega
  | n + 1,m + 1,l,a,ha,hn,hm=>by
    unfold downL
    split
    · rfl
    · rename_i h
      have h1:=pick2_gt h
      exact downL_fuel fk n m _ _ (by rw [swapL_length]; exact pickL_lt (pickL_lt ha)) (by rw [swapL_length]; omega) (by rw [swapL_length]; omega)

theorem pick_step {fk:Nat} {m:List Hit} {k f b:Nat} (h1:2 * k + 1≤b) (h2:b≤2 * k + 2) (h:(b = 2 * k + 1→f = k)∧(b = 2 * k + 2→f = pickL fk m k (2 * k + 1))∧(b = 2 * k + 3→f = pickL fk m (pickL fk m k (2 * k + 1)) (2 * k + 2))) :
    (b + 1 = 2 * k + 1→pickL fk m f b = k)∧(b + 1 = 2 * k + 2→pickL fk m f b = pickL fk m k (2 * k + 1))∧(b + 1 = 2 * k + 3→pickL fk m f b = pickL fk m (pickL fk m k (2 * k + 1)) (2 * k + 2)):=by
  refine ⟨fun e=>by omega,fun e=>?_,fun e=>?_⟩
  · obtain rfl:b = 2 * k + 1:=by omega
    rw [h.1 rfl]
  · obtain rfl:b = 2 * k + 2:=by omega
    rw [h.2.1 rfl]

set_option maxHeartbeats 4000000 in
theorem down146_100 (bq g cap a:Nat) (l:List Hit) (w:World) (h:QAt w bq 104 (.slice (some ⟨g,0,none⟩) l.length cap) l) (ha:a < l.length) (hl:l.length≤1000) :
    Calls Tryz.prog 153 #[.pointer (some ⟨bq,0,none⟩),.int .i64 a] w fun ev w'=>ev = .returned (.tuple #[])∧QAt w' bq 104 (.slice (some ⟨g,0,none⟩) l.length cap) (downL 104 l.length l a)∧Kept (fun k=>k = g) w w':=by
  have hne:=h.ne (g:=g) rfl
  have H:=hide h
  clear h
  go_enter Tryz.func153,Tryz.ntmps153
  go_wp2
  go_loopw [1,4,5] (fun at_ _ _ wr=>∃ (k:Nat) (m:List Hit),at_ = .int .i64 k∧k < m.length∧Hid (m.length = l.length)∧QAt wr bq 104 (.slice (some ⟨g,0,none⟩) m.length cap) m∧Hid (downL 104 l.length l a = downL 104 l.length m k)∧Hid (Kept (fun k=>k = g) w wr)) (fun at_ _ _ _=>l.length - (intOf at_).toNat)
  case atStart=>exact ⟨a,l,rfl,ha,rfl,H.out,rfl,Kept.refl _ _⟩
  case round =>
    obtain ⟨k,m,rfl,hkm,HML,hq,HE,HK⟩:=hrel
    have hm1000:m.length≤1000:=by rw [HML.out]; exact hl
    have HQ:=hide hq
    clear hq
    go_wp2
    go_loopw [4,5] (fun first below wr2=>∃ (f b:Nat),first = .int .i64 f∧below = .int .i64 b∧f < m.length∧2 * k + 1≤b∧b≤2 * k + 3∧Hid (QAt wr2 bq 104 (.slice (some ⟨g,0,none⟩) m.length cap) m)∧Hid (Below wr.heap.size wr wr2) ∧
        Hid ((b = 2 * k + 1→f = k)∧(b = 2 * k + 2→f = pickL 104 m k (2 * k + 1))∧(b = 2 * k + 3→f = pickL 104 m (pickL 104 m k (2 * k + 1)) (2 * k + 2)))) (fun _ below _=>2 * k + 3 - (intOf below).toNat)
    case atStart=>exact ⟨k,2 * k + 1,rfl,by go_num,hkm,by omega,by omega,HQ.out,Below.refl _ _,fun _=>rfl,by omega,by omega⟩
    case round =>
      obtain ⟨f,b,rfl,rfl,hfm,hb1,hb2,HQ2,HB2,HF⟩:=hrel
      by_cases hb3:b = 2 * k + 3
      · have hd:¬ ((b:Int)≤2 * (k:Int) + 2):=by omega
        have hf:=HF.out.2.2 hb3
        have HFF:=hide hf
        clear hf hb1 hb2 hb3 HF
        by_cases hfk:f = k
        · subst hfk
          go_wp2
          (try simp only [Exit.inBlock,Exit.then]); refine bodyPost_ret (results_none rfl _ _ _) rfl ?_
          refine ⟨rfl,?_,?_⟩
          · rw [HE.out,← HML.out]
            have hc:=HFF.out
            have hz:m.length ≠ 0:=by omega
            obtain ⟨z,hz⟩:∃ z,m.length = z + 1:=⟨m.length - 1,by omega⟩
            rw [show downL 104 m.length m f = m by rw [hz,downL,if_pos hc.symm]]
            exact HQ2.out
          · exact HK.out.below HB2.out
        · have hfi:¬ ((f:Int) = (k:Int)):=by omega
          have hq2:=HQ2.out
          go_wp2_with (go_at_call 172; refine (swap162 bq 104 g cap k f m _ hq2 hkm hfm (by omega) hm1000).mono ?_; rintro e3 w3 ⟨rfl,hq3,hk3⟩)
          refine ⟨⟨f,swapL m k f,rfl,by rw [swapL_length]; exact hfm,by rw [swapL_length]; exact HML.out,by rw [swapL_length]; exact hq3,?_,?_⟩,?_⟩
          · have hc:=HFF.out
            have hgt:k < f:=by
              have:=pick2_gt (fk:=104) (l:=m) (a:=k) (by rw [← hc]; exact hfk)
              omega
            show downL 104 l.length l a = _
            rw [HE.out,← HML.out]
            obtain ⟨z,hz⟩:∃ z,m.length = z + 1:=⟨m.length - 1,by omega⟩
            rw [hz,downL,if_neg (by rw [← hc]; exact hfk),← hc]
            exact downL_fuel 104 _ _ _ _ (by rw [swapL_length]; exact hfm) (by rw [swapL_length]; omega) (by rw [swapL_length]; omega)
          · exact (HK.out.below HB2.out).trans hk3 (fun _ _ h=>h)
          · have hc:=HFF.out
            have hgt:k < f:=by
              have:=pick2_gt (fk:=104) (l:=m) (a:=k) (by rw [← hc]; exact hfk)
              omega
            have:=HML.out
            simp [intOf]; omega
      · have hb4:(b:Int)≤2 * (k:Int) + 2:=by omega
        have hS:=CmpQ.of HQ2.out hfm hfm
        by_cases hbm:b < m.length
        · have hS:=CmpQ.of HQ2.out hbm hfm
          generalize hx:nth m b = x at hS
          generalize hy:nth m f = y at hS
          have HX:=hide hx
          have HY:=hide hy
          clear hx hy
          have hd:decide (b < m.length) = true:=by simpa using hbm
          go_wp2
          go_region_held3 (fun wx=>wx.cell? ⟨bq,0,none⟩ = some (.func (.func 104) #[] #[])∧wx.cell? ⟨bq,1,none⟩ = some (.slice (some ⟨g,0,none⟩) m.length cap) ∧
    wx.cell? ⟨g,b * 2,none⟩ = some (.int .i64 x.1)∧wx.cell? ⟨g,b * 2 + 1,none⟩ = some (.int .i64 x.2)∧wx.cell? ⟨g,f * 2,none⟩ = some (.int .i64 y.1)∧wx.cell? ⟨g,f * 2 + 1,none⟩ = some (.int .i64 y.2)) ((refine CmpQ.cells (w0:=wr) ?_; repeat (first | exact hS | refine CmpQ.drew ?_ | exact hS2)))
            (first
              | (go_at_call 104; refine (nearer100 x y _).mono ?_; rintro e w2 ⟨rfl,hb2'⟩; have hS2:=CmpQ.below (CmpQ.drew hS) hb2'))
          have HS2:=hide hS2
          have hxm:nth m b = x:=HX.out
          have hym:nth m f = y:=HY.out
          clear hS hS2 hb2'
          by_cases hah:ahead 104 x y = true
          · have hah1:nearB x y = true:=by simpa [ahead] using hah
            rw [hah1]
            have HA:=hide hah
            clear hah hah1
            go_wp2
            refine ⟨⟨b,b + 1,rfl,by go_num,hbm,by omega,by omega,HQ2.out.below HS2.out.bel,HB2.out.trans (HS2.out.bel.mono HB2.out.size),?_⟩,by simp [intOf]; omega⟩
            have hp:=pick_step hb1 (by omega) HF.out
            rwa [show pickL 104 m f b = b by rw [pickL,HX.out,HY.out,if_pos ⟨hbm,HA.out⟩]] at hp
          · have hah1:nearB x y = false:=by simpa [ahead] using hah
            rw [hah1]
            have HA:=hide hah
            clear hah hah1
            go_wp2
            refine ⟨⟨f,b + 1,rfl,by go_num,hfm,by omega,by omega,HQ2.out.below HS2.out.bel,HB2.out.trans (HS2.out.bel.mono HB2.out.size),?_⟩,by simp [intOf]; omega⟩
            have hp:=pick_step hb1 (by omega) HF.out
            rwa [show pickL 104 m f b = f by rw [pickL,HX.out,HY.out,if_neg (fun h=>HA.out h.2)]] at hp
        · have c1:=HQ2.out.c1
          have hd:decide (b < m.length) = false:=by simpa using hbm
          have hd2:decide ((b:Int) < (m.length:Int)) = false:=by simp; omega
          go_wp2
          go_quiet (fail)
          go_wp2
          refine ⟨⟨f,b + 1,rfl,by go_num,hfm,by omega,by omega,HQ2.out.of_block (by rw [heap_drewN]) (fun _ _=>by rw [heap_drewN]),below_drewN HB2.out _,?_⟩,by simp [intOf]; omega⟩
          have hp:=pick_step hb1 (by omega) HF.out
          rwa [show pickL 104 m f b = f by rw [pickL,if_neg (fun h=>hbm h.1)]] at hp

set_option maxHeartbeats 4000000 in
theorem down146_143 (bq g cap a:Nat) (l:List Hit) (w:World) (h:QAt w bq 150 (.slice (some ⟨g,0,none⟩) l.length cap) l) (ha:a < l.length) (hl:l.length≤1000) :
    Calls Tryz.prog 153 #[.pointer (some ⟨bq,0,none⟩),.int .i64 a] w fun ev w'=>ev = .returned (.tuple #[])∧QAt w' bq 150 (.slice (some ⟨g,0,none⟩) l.length cap) (downL 150 l.length l a)∧Kept (fun k=>k = g) w w':=by
  have hne:=h.ne (g:=g) rfl
  have H:=hide h
  clear h
  go_enter Tryz.func153,Tryz.ntmps153
  go_wp2
  go_loopw [1,4,5] (fun at_ _ _ wr=>∃ (k:Nat) (m:List Hit),at_ = .int .i64 k∧k < m.length∧Hid (m.length = l.length)∧QAt wr bq 150 (.slice (some ⟨g,0,none⟩) m.length cap) m∧Hid (downL 150 l.length l a = downL 150 l.length m k)∧Hid (Kept (fun k=>k = g) w wr)) (fun at_ _ _ _=>l.length - (intOf at_).toNat)
  case atStart=>exact ⟨a,l,rfl,ha,rfl,H.out,rfl,Kept.refl _ _⟩
  case round =>
    obtain ⟨k,m,rfl,hkm,HML,hq,HE,HK⟩:=hrel
    have hm1000:m.length≤1000:=by rw [HML.out]; exact hl
    have HQ:=hide hq
    clear hq
    go_wp2
    go_loopw [4,5] (fun first below wr2=>∃ (f b:Nat),first = .int .i64 f∧below = .int .i64 b∧f < m.length∧2 * k + 1≤b∧b≤2 * k + 3∧Hid (QAt wr2 bq 150 (.slice (some ⟨g,0,none⟩) m.length cap) m)∧Hid (Below wr.heap.size wr wr2) ∧
        Hid ((b = 2 * k + 1→f = k)∧(b = 2 * k + 2→f = pickL 150 m k (2 * k + 1))∧(b = 2 * k + 3→f = pickL 150 m (pickL 150 m k (2 * k + 1)) (2 * k + 2)))) (fun _ below _=>2 * k + 3 - (intOf below).toNat)
    case atStart=>exact ⟨k,2 * k + 1,rfl,by go_num,hkm,by omega,by omega,HQ.out,Below.refl _ _,fun _=>rfl,by omega,by omega⟩
    case round =>
      obtain ⟨f,b,rfl,rfl,hfm,hb1,hb2,HQ2,HB2,HF⟩:=hrel
      by_cases hb3:b = 2 * k + 3
      · have hd:¬ ((b:Int)≤2 * (k:Int) + 2):=by omega
        have hf:=HF.out.2.2 hb3
        have HFF:=hide hf
        clear hf hb1 hb2 hb3 HF
        by_cases hfk:f = k
        · subst hfk
          go_wp2
          (try simp only [Exit.inBlock,Exit.then]); refine bodyPost_ret (results_none rfl _ _ _) rfl ?_
          refine ⟨rfl,?_,?_⟩
          · rw [HE.out,← HML.out]
            have hc:=HFF.out
            have hz:m.length ≠ 0:=by omega
            obtain ⟨z,hz⟩:∃ z,m.length = z + 1:=⟨m.length - 1,by omega⟩
            rw [show downL 150 m.length m f = m by rw [hz,downL,if_pos hc.symm]]
            exact HQ2.out
          · exact HK.out.below HB2.out
        · have hfi:¬ ((f:Int) = (k:Int)):=by omega
          have hq2:=HQ2.out
          go_wp2_with (go_at_call 172; refine (swap162 bq 150 g cap k f m _ hq2 hkm hfm (by omega) hm1000).mono ?_; rintro e3 w3 ⟨rfl,hq3,hk3⟩)
          refine ⟨⟨f,swapL m k f,rfl,by rw [swapL_length]; exact hfm,by rw [swapL_length]; exact HML.out,by rw [swapL_length]; exact hq3,?_,?_⟩,?_⟩
          · have hc:=HFF.out
            have hgt:k < f:=by
              have:=pick2_gt (fk:=150) (l:=m) (a:=k) (by rw [← hc]; exact hfk)
              omega
            show downL 150 l.length l a = _
            rw [HE.out,← HML.out]
            obtain ⟨z,hz⟩:∃ z,m.length = z + 1:=⟨m.length - 1,by omega⟩
            rw [hz,downL,if_neg (by rw [← hc]; exact hfk),← hc]
            exact downL_fuel 150 _ _ _ _ (by rw [swapL_length]; exact hfm) (by rw [swapL_length]; omega) (by rw [swapL_length]; omega)
          · exact (HK.out.below HB2.out).trans hk3 (fun _ _ h=>h)
          · have hc:=HFF.out
            have hgt:k < f:=by
              have:=pick2_gt (fk:=150) (l:=m) (a:=k) (by rw [← hc]; exact hfk)
              omega
            have:=HML.out
            simp [intOf]; omega
      · have hb4:(b:Int)≤2 * (k:Int) + 2:=by omega
        have hS:=CmpQ.of HQ2.out hfm hfm
        by_cases hbm:b < m.length
        · have hS:=CmpQ.of HQ2.out hbm hfm
          generalize hx:nth m b = x at hS
          generalize hy:nth m f = y at hS
          have HX:=hide hx
          have HY:=hide hy
          clear hx hy
          have hd:decide (b < m.length) = true:=by simpa using hbm
          go_wp2
          go_region_held3 (fun wx=>wx.cell? ⟨bq,0,none⟩ = some (.func (.func 150) #[] #[])∧wx.cell? ⟨bq,1,none⟩ = some (.slice (some ⟨g,0,none⟩) m.length cap) ∧
    wx.cell? ⟨g,b * 2,none⟩ = some (.int .i64 x.1)∧wx.cell? ⟨g,b * 2 + 1,none⟩ = some (.int .i64 x.2)∧wx.cell? ⟨g,f * 2,none⟩ = some (.int .i64 y.1)∧wx.cell? ⟨g,f * 2 + 1,none⟩ = some (.int .i64 y.2)) ((refine CmpQ.cells (w0:=wr) ?_; repeat (first | exact hS | refine CmpQ.drew ?_ | exact hS2)))
            (first
              | (go_at_call 150; refine (farther143 x y _).mono ?_; rintro e w2 ⟨rfl,hb2'⟩; have hS2:=CmpQ.below (CmpQ.drew hS) hb2'))
          have HS2:=hide hS2
          have hxm:nth m b = x:=HX.out
          have hym:nth m f = y:=HY.out
          clear hS hS2 hb2'
          by_cases hah:ahead 150 x y = true
          · have hah1:farB x y = true:=by simpa [ahead] using hah
            rw [hah1]
            have HA:=hide hah
            clear hah hah1
            go_wp2
            refine ⟨⟨b,b + 1,rfl,by go_num,hbm,by omega,by omega,HQ2.out.below HS2.out.bel,HB2.out.trans (HS2.out.bel.mono HB2.out.size),?_⟩,by simp [intOf]; omega⟩
            have hp:=pick_step hb1 (by omega) HF.out
            rwa [show pickL 150 m f b = b by rw [pickL,HX.out,HY.out,if_pos ⟨hbm,HA.out⟩]] at hp
          · have hah1:farB x y = false:=by simpa [ahead] using hah
            rw [hah1]
            have HA:=hide hah
            clear hah hah1
            go_wp2
            refine ⟨⟨f,b + 1,rfl,by go_num,hfm,by omega,by omega,HQ2.out.below HS2.out.bel,HB2.out.trans (HS2.out.bel.mono HB2.out.size),?_⟩,by simp [intOf]; omega⟩
            have hp:=pick_step hb1 (by omega) HF.out
            rwa [show pickL 150 m f b = f by rw [pickL,HX.out,HY.out,if_neg (fun h=>HA.out h.2)]] at hp
        · have c1:=HQ2.out.c1
          have hd:decide (b < m.length) = false:=by simpa using hbm
          have hd2:decide ((b:Int) < (m.length:Int)) = false:=by simp; omega
          go_wp2
          go_quiet (fail)
          go_wp2
          refine ⟨⟨f,b + 1,rfl,by go_num,hfm,by omega,by omega,HQ2.out.of_block (by rw [heap_drewN]) (fun _ _=>by rw [heap_drewN]),below_drewN HB2.out _,?_⟩,by simp [intOf]; omega⟩
          have hp:=pick_step hb1 (by omega) HF.out
          rwa [show pickL 150 m f b = f by rw [pickL,if_neg (fun h=>hbm h.1)]] at hp

theorem down146_any (bq fk g cap a:Nat) (hk:IsOrd fk) (l:List Hit) (w:World) (h:QAt w bq fk (.slice (some ⟨g,0,none⟩) l.length cap) l) (ha:a < l.length) (hl:l.length≤1000) :
    Calls Tryz.prog 153 #[.pointer (some ⟨bq,0,none⟩),.int .i64 a] w fun ev w'=>ev = .returned (.tuple #[])∧QAt w' bq fk (.slice (some ⟨g,0,none⟩) l.length cap) (downL fk l.length l a)∧Kept (fun k=>k = g) w w':=by
  rcases hk with rfl | rfl
  · exact down146_100 bq g cap a l w h ha hl
  · exact down146_143 bq g cap a l w h ha hl

end
section
open Go.RowKit

set_option maxHeartbeats 1000000 in
theorem down146_none (bq fk g _n cap:Nat) (w:World) (h:QAt w bq fk (.slice (some ⟨g,0,none⟩) 0 cap) []) :
    Calls Tryz.prog 153 #[.pointer (some ⟨bq,0,none⟩),.int .i64 0] w fun ev w'=>ev = .returned (.tuple #[])∧QAt w' bq fk (.slice (some ⟨g,0,none⟩) 0 cap) []∧Kept (fun k=>k = g) w w':=by
  have c1:=h.c1
  have H:=hide h
  clear h
  go_enter Tryz.func153,Tryz.ntmps153
  go_wp2
  refine wp_loop_rounds 1 ?_
  rw [rounds_succ]
  go_wp2
  refine wp_loop_rounds 3 ?_
  rw [rounds_succ]
  go_wp2
  go_quiet (fail)
  go_wp2
  rw [rounds_succ]
  go_wp2
  go_quiet (fail)
  go_wp2
  rw [rounds_succ]
  go_wp2
  (try simp only [Exit.inBlock,Exit.then]); refine bodyPost_ret (results_none rfl _ _ _) rfl ?_
  exact ⟨rfl,H.out.of_block (by simp) (fun _ _=>by simp),(Kept.refl _ _).drewN _⟩

def pushL (fk:Nat) (l:List Hit) (h:Hit):List Hit:=upL fk (l.length + 1) (l ++ [h]) l.length
theorem pushL_length (fk:Nat) (l:List Hit) (h:Hit):(pushL fk l h).length = l.length + 1:=by simp [pushL,upL_length]
def popL (fk:Nat) (l:List Hit):List Hit:=downL fk (l.length - 1) ((l.set 0 (nth l (l.length - 1))).take (l.length - 1)) 0
theorem popL_length (fk:Nat) (l:List Hit):(popL fk l).length = l.length - 1:=by simp [popL,downL_length]

set_option maxHeartbeats 1000000 in
theorem len106 (bq fk:Nat) (v:Value) (l:List Hit) (w:World) (h:QAt w bq fk v l) :
    Calls Tryz.prog 110 #[.pointer (some ⟨bq,0,none⟩)] w fun ev w'=>ev = .returned (.int .i64 l.length)∧w = w':=by
  have c1:=h.c1
  obtain ⟨a,cap,rfl⟩:=h.slice
  clear h
  go_enter Tryz.func110,Tryz.ntmps110
  go_wp2
  go_ret
  exact ⟨rfl,rfl⟩

set_option maxHeartbeats 1000000 in
theorem top108 (bq fk:Nat) (v:Value) (l:List Hit) (w:World) (h:QAt w bq fk v l) (h0:0 < l.length) :
    Calls Tryz.prog 112 #[.pointer (some ⟨bq,0,none⟩)] w fun ev w'=>ev = .returned (.agg #[.int .i64 (nth l 0).1,.int .i64 (nth l 0).2])∧Below w.heap.size w w':=by
  obtain ⟨g,cap,rfl,hcap⟩:=h.addr h0
  have c1:=h.c1
  have x0:=HRow.at0 h.row h0
  have x1:=HRow.at1 h.row h0
  simp only [Nat.zero_mul,Nat.zero_add] at x0 x1
  have b1:=block_lt_of_cell c1
  have b2:=block_lt_of_cell x0
  clear h
  go_enter Tryz.func112,Tryz.ntmps112
  go_wp2
  refine bodyPost_ret (v:=.agg #[.int .i64 (nth l 0).1,.int .i64 (nth l 0).2]) (by simp [results,Tryz.results112,go_sem]) rfl ⟨rfl,?_⟩
  repeat (first | exact Below.refl _ _ | refine Below.setCell ?_ (by simp) _ | refine Below.alloc ?_ (by simp) _)

set_option maxHeartbeats 1000000 in
theorem new99 (fk:Nat) (w:World) :
    Calls Tryz.prog 103 #[.func (.func fk) #[] #[]] w fun ev w'=>ev = .returned (.pointer (some ⟨w.heap.size,0,none⟩))∧QAt w' w.heap.size fk (.slice none 0 0) []∧Below w.heap.size w w':=by
  go_enter Tryz.func103,Tryz.ntmps103
  go_wp2
  go_ret
  exact ⟨rfl,⟨heap_alloc_new _ _,rfl,.inl ⟨rfl,rfl⟩⟩,(Below.refl _ _).alloc (Nat.le_refl _) _⟩
end
section
open Go.RowKit

theorem info63:(Tryz.prog.info? 63).map (fun i=>(i.zero,i.size,i.bytes)) = some (some (.agg #[.int .i64 0,.int .i64 0]),2,16):=by kernel_rfl

theorem row_fit (n:Nat) (h:n≤1000):n + 1≤maxLen∧(n + 1) * 16≤140737488355328:=by
  unfold maxLen
  omega

def PushS (w0:World) (bq fk B:Nat) (v:Value) (l:List Hit) (h:Hit) (wx:World):Prop :=
  QAt wx bq fk v l∧wx.heap[B]? = some (.cells #[.int .i64 h.1,.int .i64 h.2] 63 (0,0))∧Below w0.heap.size w0 wx
section
variable {w0 wx wy:World} {bq fk B:Nat} {v:Value} {l:List Hit} {h:Hit}
theorem PushS.below (hp:PushS w0 bq fk B v l h wx) (hb:Below wx.heap.size wx wy):PushS w0 bq fk B v l h wy :=
  ⟨hp.1.below hb,(hb.block _ (heap_lt hp.2.1)).trans hp.2.1,hp.2.2.trans (hb.mono hp.2.2.size)⟩
theorem PushS.drew (hp:PushS w0 bq fk B v l h wx):PushS w0 bq fk B v l h wx.drew:=hp.below (Below.refl _ _).drew
theorem PushS.alloc (hp:PushS w0 bq fk B v l h wx) (o:Obj):PushS w0 bq fk B v l h (wx.alloc o):=hp.below ((Below.refl _ _).alloc (Nat.le_refl _) o)
theorem PushS.cells (hp:PushS w0 bq fk B v l h wx):wx.cell? ⟨bq,1,none⟩ = some v∧wx.frozen? ⟨bq,1,none⟩ = false∧wx.cell? ⟨B,0,none⟩ = some (.int .i64 h.1)∧wx.cell? ⟨B,1,none⟩ = some (.int .i64 h.2) :=
  ⟨hp.1.c1,hp.1.fz 1,cells_at hp.2.1 0 rfl,cells_at hp.2.1 1 rfl⟩
theorem PushS.grown (hp:PushS w0 bq fk B v l h wx) (hg:wx.grownBy wy v.ownBlock) (h1:v.ownBlock ≠ some bq) (h2:v.ownBlock ≠ some B):wy.cell? ⟨bq,1,none⟩ = some v∧wy.frozen? ⟨bq,1,none⟩ = false∧wy.cell? ⟨B,0,none⟩ = some (.int .i64 h.1)∧wy.cell? ⟨B,1,none⟩ = some (.int .i64 h.2) :=
  ⟨(hg.cell_far ⟨bq,1,none⟩ hp.1.lt (Ne.symm h1)).trans hp.cells.1,(World.frozen?_of_block (w:=wx) (a:=⟨bq,1,none⟩) (hg.block bq hp.1.lt (Ne.symm h1))).trans (hp.1.fz 1),(hg.cell_far ⟨B,0,none⟩ (heap_lt hp.2.1) (Ne.symm h2)).trans hp.cells.2.2.1,(hg.cell_far ⟨B,1,none⟩ (heap_lt hp.2.1) (Ne.symm h2)).trans hp.cells.2.2.2⟩
theorem PushS.stored (hp:PushS w0 bq fk B v l h wx) (hg:wx.grownBy wy v.ownBlock) (h1:v.ownBlock ≠ some bq) {g cap:Nat} (ho:wy.ownsRow 0 63 2 (.slice (some ⟨g,0,none⟩) (l.length + 1) cap) (l.length + 1) (hcells l ++ [.int .i64 h.1,.int .i64 h.2])) (hgb:g ≠ bq) :
    QAt (wy.setCell ⟨bq,1,none⟩ (.slice (some ⟨g,0,none⟩) (l.length + 1) cap)) bq fk (.slice (some ⟨g,0,none⟩) (l ++ [h]).length cap) (l ++ [h]):=by
  have hb:wy.heap[bq]? = some (.cells #[.func (.func fk) #[] #[],v] 230 (0,0)):=(hg.block bq hp.1.lt (Ne.symm h1)).trans hp.1.blk
  refine ⟨?_,?_⟩
  · rw [heap_setCell_same _ _ _ _ _ _ hb]
    simp
  · unfold HRow
    rw [hcells_append,List.length_append]
    refine ownsRow_of_block (w:=wy) ho fun g' e=>?_
    obtain rfl:g = g':=by simpa [Value.ownBlock] using e
    exact Below.heap_setCell _ _ _ _ hgb
end

set_option maxHeartbeats 4000000 in
set_option maxRecDepth 20000 in
theorem push104 (bq fk:Nat) (hk:IsOrd fk) (v:Value) (l:List Hit) (h:Hit) (w:World) (hq:QAt w bq fk v l) (hl:l.length < 1000) :
    Calls Tryz.prog 108 #[.pointer (some ⟨bq,0,none⟩),.agg #[.int .i64 h.1,.int .i64 h.2]] w fun ev w'=>ev = .returned (.tuple #[]) ∧
      ∃ v',QAt w' bq fk v' (pushL fk l h)∧Kept (fun k=>k = bq ∨ v.ownBlock = some k) w w'∧(v'.ownBlock = v.ownBlock ∨ ∀ g,v'.ownBlock = some g→w.heap.size≤g):=by
  obtain ⟨i0,hi,hz0,hz1,hz2⟩:=info_parts info63
  have hfit:=row_fit l.length (by omega)
  obtain ⟨i,d⟩:=h
  have hS:PushS w bq fk w.heap.size v l (i,d) (w.alloc (.cells #[.int .i64 i,.int .i64 d] 63)) :=
    ⟨hq.below ((Below.refl _ _).alloc (Nat.le_refl _) _),heap_alloc_new _ _,(Below.refl _ _).alloc (Nat.le_refl _) _⟩
  have hsz:(w.alloc (.cells #[.int .i64 i,.int .i64 d] 63)).heap.size = w.heap.size + 1:=by simp
  have hvn:v.ownBlock ≠ some bq:=fun e=>hq.ne e rfl
  have hvlt:∀ g,v.ownBlock = some g→g < w.heap.size:=fun g hg=>(hq.row.lt g hg).2
  have hvB:v.ownBlock ≠ some w.heap.size:=fun e=>by have:=hvlt _ e; omega
  have hbq:=hq.lt
  have HL:=hide hl
  clear hq hl
  go_enter Tryz.func108,Tryz.ntmps108
  go_wp2_with fail
  generalize w.alloc (.cells #[.int .i64 i,.int .i64 d] 63) = w1 at hS hsz ⊢
  have HSZ:=hide hsz
  clear hsz
  obtain ⟨c1,f1,b0,b1⟩:=hS.cells
  simp only at b0 b1
  have l1:=block_lt_of_cell c1
  have l2:=block_lt_of_cell b0
  go_region_law
    ((refine step_append_lies _ (by rfl) _ _ _ (by rfl) 0 63 i0 _ 2 16 Tryz.underlying58 hi hz0 hz1 hz2 rfl (by omega) v l.length (hcells l) (by rfl) ((hS.alloc _).drew.1.row)
        ⟨w1.heap.size,0,none⟩ 1 1 [.int .i64 i,.int .i64 d] (by rfl) (by rfl) (World.news_of_block (cs:=#[.int .i64 i,.int .i64 d]) (t:=63) (fr:=(0,0)) (heap_alloc_new _ _)) (by simp [Value.oneCell'])
        (by omega) hfit.1 hfit.2 (Nat.zero_le _) (w1.heap.size + 1) (by simp) ?_; intro gg cap w2 hown1 hgrow hat hlt; have hk1:=(PushS.grown (hS.alloc _).drew hgrow hvn hvB).1; have hkf:=(PushS.grown (hS.alloc _).drew hgrow hvn hvB).2.1; have HG1:=hide hgrow; have HO1:=hide hown1; have HAT:=hide hat; clear hown1 hgrow hat))
  all_goals (
    have hgb:gg ≠ bq:=by
      have hz:=HSZ.out
      rcases HAT.out with e | e
      · exact fun e2=>hvn (e2 ▸ e)
      · omega
    have hq3:=PushS.stored (hS.alloc _).drew HG1.out hvn HO1.out hgb
    simp only [List.length_append,List.length_cons,List.length_nil,Nat.zero_add] at hq3
    have hlast:((l.length + 1:Nat):Int) - 1 = (l.length:Int):=by omega
    have hw2:Kept (fun k=>k = bq ∨ v.ownBlock = some k) w w2:=by
      refine Kept.grown (Kept.of_below _ ((hS.alloc _).drew.2.2)) HG1.out (fun k e _=>.inr e)
    have hw3:=hw2.setCell (p:=⟨bq,1,none⟩) (fun _=>.inl rfl) (.slice (some ⟨gg,0,none⟩) (l.length + 1) cap)
    have hge:v.ownBlock = some gg ∨ w.heap.size≤gg:=by
      have hz:=HSZ.out
      exact HAT.out.imp id (fun e=>by omega)
    generalize w2.setCell ⟨bq,1,none⟩ (.slice (some ⟨gg,0,none⟩) (l.length + 1) cap) = w3 at hq3 hw3 ⊢
    have c3:=hq3.c1
    have HGE:=hide hge
    have HW3:=hide hw3
    have hup:=up144_any bq fk gg cap l.length hk (l ++ [(i,d)]) w3 (by simpa using hq3) (by simp) (by have:=HL.out; simp; omega)
    have HUP:=hide hup
    clear hS c1 f1 b0 b1 l1 l2 hq3 hw2 hw3 hup hgb hk1 hkf HSZ hlt HAT HO1 HG1 hge
    go_wp2_with (go_at_call 151; refine HUP.out.mono ?_; rintro e3 w4 ⟨rfl,hq4,hk4⟩)
    go_end0
    refine ⟨rfl,_,hq4,HW3.out.trans hk4 (fun j hj e=>?_),?_⟩
    · rw [e]
      exact HGE.out.elim .inr (fun h=>by omega)
    · rcases HGE.out with e | e
      · exact .inl e.symm
      · exact .inr fun g' e'=>by
          obtain rfl:gg = g':=by simpa [Value.ownBlock] using e'
          exact e)
end
section
open Go.RowKit

theorem hcells_take:∀ (l:List Hit) (k:Nat),(hcells l).take (k * 2) = hcells (l.take k)
  | [],k=>by simp [hcells]
  | x :: l,0=>by simp [hcells]
  | x :: l,k + 1=>by
    have e1:(k + 1) * 2 = k * 2 + 2:=by omega
    rw [hcells_cons,e1,List.take_succ_cons,hcells_cons]
    simp only [hcell,List.cons_append,List.nil_append,List.take_succ_cons]
    rw [hcells_take l k]

theorem HRow.cut {w:World} {g n cap:Nat} {l:List Hit} (h:w.ownsRow 0 63 2 (.slice (some ⟨g,0,none⟩) n cap) n (hcells l)) {k:Nat} (hk:k≤n) :
    w.ownsRow 0 63 2 (.slice (some ⟨g,0,none⟩) k cap) k (hcells (l.take k)):=by
  obtain ⟨cur,h1,h2,h3,h4,h5,h6⟩:=ownsRow_parts h
  have hl:=h.1
  rw [hcells_length] at hl
  refine ⟨by rw [hcells_length,List.length_take]; omega,.inr ⟨g,cap,cur,rfl,h1,h2,by omega,h4,h5,?_⟩⟩
  rw [← hcells_take,← h6,List.take_take,Nat.min_eq_left (by omega)]

theorem QAt.popped {w:World} {bq fk g cap:Nat} {l:List Hit} (h:QAt w bq fk (.slice (some ⟨g,0,none⟩) l.length cap) l) (x:Hit) :
    QAt (((w.setCell ⟨g,0,none⟩ (.int .i64 x.1)).setCell ⟨g,1,none⟩ (.int .i64 x.2)).setCell ⟨bq,1,none⟩ (.slice (some ⟨g,0,none⟩) (l.length - 1) cap)) bq fk (.slice (some ⟨g,0,none⟩) ((l.set 0 x).take (l.length - 1)).length cap) ((l.set 0 x).take (l.length - 1)):=by
  have hne:=h.ne (g:=g) rfl
  have h1:=HRow.set h.row 0 x
  simp only [Nat.zero_mul,Nat.zero_add] at h1
  have h2:=HRow.cut h1 (k:=l.length - 1) (by omega)
  have e:((l.set 0 x).take (l.length - 1)).length = l.length - 1:=by simp
  have hb:((w.setCell ⟨g,0,none⟩ (.int .i64 x.1)).setCell ⟨g,1,none⟩ (.int .i64 x.2)).heap[bq]? = some (.cells #[.func (.func fk) #[] #[],(.slice (some ⟨g,0,none⟩) l.length cap)] 230 (0,0)):=by
    rw [Below.heap_setCell _ _ _ _ (fun e=>hne e.symm),Below.heap_setCell _ _ _ _ (fun e=>hne e.symm)]
    exact h.blk
  refine ⟨?_,?_⟩
  · rw [heap_setCell_same _ _ _ _ _ _ hb,e]
    simp
  · unfold HRow
    rw [e]
    refine ownsRow_of_block h2 fun g' e'=>?_
    obtain rfl:g = g':=by simpa [Value.ownBlock] using e'
    exact Below.heap_setCell _ _ _ _ hne

theorem down146_top (bq fk g cap:Nat) (hk:IsOrd fk) (m:List Hit) (w:World) (h:QAt w bq fk (.slice (some ⟨g,0,none⟩) m.length cap) m) (hl:m.length≤1000) :
    Calls Tryz.prog 153 #[.pointer (some ⟨bq,0,none⟩),.int .i64 0] w fun ev w'=>ev = .returned (.tuple #[])∧QAt w' bq fk (.slice (some ⟨g,0,none⟩) m.length cap) (downL fk m.length m 0)∧Kept (fun k=>k = g) w w':=by
  rcases Nat.eq_zero_or_pos m.length with h0 | h0
  · obtain rfl:=List.eq_nil_of_length_eq_zero h0
    exact down146_none bq fk g 0 cap w h
  · exact down146_any bq fk g cap 0 hk m w h h0 hl

set_option maxHeartbeats 4000000 in
set_option maxRecDepth 20000 in
theorem pop110 (bq fk:Nat) (hk:IsOrd fk) (v:Value) (l:List Hit) (w:World) (hq:QAt w bq fk v l) (h0:0 < l.length) (hl:l.length≤1000) :
    Calls Tryz.prog 114 #[.pointer (some ⟨bq,0,none⟩)] w fun ev w'=>ev = .returned (.agg #[.int .i64 (nth l 0).1,.int .i64 (nth l 0).2]) ∧
      ∃ v',QAt w' bq fk v' (popL fk l)∧v'.ownBlock = v.ownBlock∧Kept (fun k=>k = bq ∨ v.ownBlock = some k) w w':=by
  obtain ⟨g,cap,rfl,hcap⟩:=hq.addr h0
  have hlast:l.length - 1 < l.length:=by omega
  have hq1:=hq.below ((Below.refl _ _).alloc (Nat.le_refl _) (.cells #[.int .i64 0,.int .i64 0] 63))
  have hw1:Below w.heap.size w (w.alloc (.cells #[.int .i64 0,.int .i64 0] 63)):=(Below.refl _ _).alloc (Nat.le_refl _) _
  have hz1:(w.alloc (.cells #[.int .i64 0,.int .i64 0] 63)).heap[w.heap.size]? = some (.cells #[.int .i64 0,.int .i64 0] 63 (0,0)):=heap_alloc_new _ _
  have hne:=hq.ne (g:=g) rfl
  have hbq:=hq.lt
  have hg:=(hq.row.lt g rfl).2
  clear hq
  go_enter Tryz.func114,Tryz.ntmps114
  go_wp2_with fail
  generalize w.alloc (.cells #[.int .i64 0,.int .i64 0] 63) = w1 at hq1 hw1 hz1 ⊢
  have c1:=hq1.c1
  have x0:=HRow.at0 hq1.row h0
  have x1:=HRow.at1 hq1.row h0
  simp only [Nat.zero_mul,Nat.zero_add] at x0 x1
  obtain ⟨p,hp⟩:∃ p,l.length - 1 = p:=⟨_,rfl⟩
  have hn1:((l.length:Nat):Int) - 1 = (p:Int):=by omega
  have hpl:p < l.length:=by omega
  have hpw:IntKind.i64.wrap (p:Int) = (p:Int):=by simp [IntKind.wrap,IntKind.bits]; omega
  have HP:=hide hp
  clear hp hlast
  have HQ1:=hide hq1
  have HW1:=hide hw1
  have HZ1:=hide hz1
  clear hq1 hw1 hz1
  have n1:=World.new_ne w1 _ c1
  have n2:=World.new_ne w1 _ x0
  have n3:=World.new_ne w1 _ x1
  go_region_held3 (fun wx=>wx.cell? ⟨bq,1,none⟩ = some (.slice (some ⟨g,0,none⟩) l.length cap)∧wx.cell? ⟨g,0,none⟩ = some (.int .i64 (nth l 0).1)∧wx.cell? ⟨g,1,none⟩ = some (.int .i64 (nth l 0).2)) (go_keep) (fail)
  have hq2:QAt (w1.alloc (.cells #[.int .i64 (nth l 0).1,.int .i64 (nth l 0).2] 63)).drew bq fk (.slice (some ⟨g,0,none⟩) l.length cap) l:=HQ1.out.below ((Below.refl _ _).alloc (Nat.le_refl _) _).drew
  have hb2:(w1.alloc (.cells #[.int .i64 (nth l 0).1,.int .i64 (nth l 0).2] 63)).drew.heap[w1.heap.size]? = some (.cells #[.int .i64 (nth l 0).1,.int .i64 (nth l 0).2] 63 (0,0)):=heap_alloc_new _ _
  have hz2:(w1.alloc (.cells #[.int .i64 (nth l 0).1,.int .i64 (nth l 0).2] 63)).drew.heap[w.heap.size]? = some (.cells #[.int .i64 0,.int .i64 0] 63 (0,0)) :=
    (Below.heap_alloc _ _ _ (heap_lt HZ1.out)).trans HZ1.out
  have hw2:Below w.heap.size w (w1.alloc (.cells #[.int .i64 (nth l 0).1,.int .i64 (nth l 0).2] 63)).drew:=(HW1.out.alloc HW1.out.size _).drew
  have hgt:w.heap.size < w1.heap.size:=heap_lt HZ1.out
  generalize (w1.alloc (.cells #[.int .i64 (nth l 0).1,.int .i64 (nth l 0).2] 63)).drew = w2 at hq2 hb2 hz2 hw2 ⊢
  clear c1 x0 x1 n1 n2 n3 HQ1 HW1 HZ1
  have c1:=hq2.c1
  have fr:=hq2.fz 1
  have y0:=HRow.at0 hq2.row hpl
  have y1:=HRow.at1 hq2.row hpl
  have x0:=HRow.at0 hq2.row h0
  have x1:=HRow.at1 hq2.row h0
  simp only [Nat.zero_mul,Nat.zero_add] at x0 x1
  have hfz:=ownsRow_frozen hq2.row
  have hq5:=hq2.popped (nth l p)
  generalize hyy:nth l p = y at y0 y1 hq5
  generalize hxx:nth l 0 = x at x0 x1 hb2
  have HQ2:=hide hq2
  have HY:=hide hyy
  have HQ5:=hide hq5
  have HB2:=hide hb2
  have HZ2:=hide hz2
  have HW2:=hide hw2
  clear hq2 hyy hq5 hb2 hz2 hw2
  go_wp2
  go_region
  have d1:((w2.setCell ⟨g,0,none⟩ (.int .i64 y.1)).setCell ⟨g,1,none⟩ (.int .i64 y.2)).drew.cell? ⟨bq,1,none⟩ = some (.slice (some ⟨g,0,none⟩) l.length cap) :=
    (World.cell?_of_block (w:=w2) (a:=⟨bq,1,none⟩) ((Below.heap_setCell _ _ _ _ (fun e=>hne e.symm)).trans (Below.heap_setCell _ _ _ _ (fun e=>hne e.symm)))).trans c1
  have df:((w2.setCell ⟨g,0,none⟩ (.int .i64 y.1)).setCell ⟨g,1,none⟩ (.int .i64 y.2)).drew.frozen? ⟨bq,1,none⟩ = false :=
    (World.frozen?_of_block (w:=w2) (a:=⟨bq,1,none⟩) ((Below.heap_setCell _ _ _ _ (fun e=>hne e.symm)).trans (Below.heap_setCell _ _ _ _ (fun e=>hne e.symm)))).trans fr
  have hq6:QAt (((w2.setCell ⟨g,0,none⟩ (.int .i64 y.1)).setCell ⟨g,1,none⟩ (.int .i64 y.2)).drew.setCell ⟨bq,1,none⟩ (.slice (some ⟨g,0,none⟩) (l.length - 1) cap)) bq fk (.slice (some ⟨g,0,none⟩) ((l.set 0 y).take (l.length - 1)).length cap) ((l.set 0 y).take (l.length - 1)) :=
    HQ5.out.of_block rfl (fun _ _=>rfl)
  have hkw:Kept (fun k=>k = bq ∨ k = g) w (((w2.setCell ⟨g,0,none⟩ (.int .i64 y.1)).setCell ⟨g,1,none⟩ (.int .i64 y.2)).drew.setCell ⟨bq,1,none⟩ (.slice (some ⟨g,0,none⟩) (l.length - 1) cap)) :=
    ((((Kept.of_below _ HW2.out).setCell (fun _=>.inr rfl) _).setCell (fun _=>.inr rfl) _).drew).setCell (fun _=>.inl rfl) _
  have hkx:Kept (fun k=>k = bq ∨ k = g) w2 (((w2.setCell ⟨g,0,none⟩ (.int .i64 y.1)).setCell ⟨g,1,none⟩ (.int .i64 y.2)).drew.setCell ⟨bq,1,none⟩ (.slice (some ⟨g,0,none⟩) (l.length - 1) cap)) :=
    ((((Kept.refl _ w2).setCell (fun _=>.inr rfl) _).setCell (fun _=>.inr rfl) _).drew).setCell (fun _=>.inl rfl) _
  rw [HP.out] at hq6 hkw hkx
  generalize ((w2.setCell ⟨g,0,none⟩ (.int .i64 y.1)).setCell ⟨g,1,none⟩ (.int .i64 y.2)).drew = w3 at d1 df hq6 hkw hkx ⊢
  have e6:((l.set 0 y).take p).length = p:=by simp; omega
  have HQ6:=hide hq6
  have HKW:=hide hkw
  have HKX:=hide hkx
  have HE6:=hide e6
  clear hq6 hkw hkx HQ5 HQ2 c1 fr y0 y1 x0 x1 hfz e6
  go_wp2_with fail
  refine (down146_top bq fk g cap hk ((l.set 0 y).take p) _ HQ6.out (by rw [HE6.out]; omega)).mono ?_
  rintro e5 w5 ⟨rfl,hq7,hk7⟩
  have hk8:Kept (fun k=>k = bq ∨ k = g) w2 w5:=HKX.out.trans hk7 (fun _ _ e=>.inr e)
  have hb5:w5.heap[w1.heap.size]? = some (.cells #[.int .i64 x.1,.int .i64 x.2] 63 (0,0)):=(hk8.block _ (heap_lt HB2.out) (by omega)).trans HB2.out
  have hz5:w5.heap[w.heap.size]? = some (.cells #[.int .i64 0,.int .i64 0] 63 (0,0)):=(hk8.block _ (heap_lt HZ2.out) (by omega)).trans HZ2.out
  have m0:=cells_at hb5 0 rfl
  have m1:=cells_at hb5 1 rfl
  have m2:=cells_at hz5 0 rfl
  have m3:=cells_at hz5 1 rfl
  have m4:=cells_frozen hz5
  have HQ7:=hide hq7
  have HK7:=hide hk7
  have HBQ:=hide hbq
  have HG:=hide hg
  clear hk8 hb5 hz5 hq7 hk7 HKX HB2 HZ2 hgt hne hbq hg d1 df
  go_wp2
  refine bodyPost_ret (v:=.agg #[.int .i64 x.1,.int .i64 x.2]) (by simp [results,Tryz.results114,go_sem,m2,m3]) rfl ⟨by rw [hxx],_,(?_:QAt _ bq fk (.slice (some ⟨g,0,none⟩) ((l.set 0 y).take p).length cap) _),rfl,?_⟩
  · have e:popL fk l = downL fk ((l.set 0 y).take p).length ((l.set 0 y).take p) 0:=by
      unfold popL
      rw [HP.out,HY.out,HE6.out]
    rw [e]
    have h1:=HBQ.out
    have h2:=HG.out
    refine HQ7.out.of_block ?_ (fun g' e'=>?_)
    · rw [Below.heap_setCell _ _ _ _ (by simp; omega),Below.heap_setCell _ _ _ _ (by simp; omega)]
    · obtain rfl:g = g':=by simpa [Value.ownBlock] using e'
      rw [Below.heap_setCell _ _ _ _ (by simp; omega),Below.heap_setCell _ _ _ _ (by simp; omega)]
  · refine Kept.setCell (Kept.setCell ((HKW.out.trans HK7.out (fun _ _ e=>.inr e)).mono (fun k _ e=>e.imp id (fun e=>by rw [e]; rfl))) (fun e=>?_) _) (fun e=>?_) _
    · exact absurd e (Nat.lt_irrefl _)
    · exact absurd e (Nat.lt_irrefl _)
end
section
open Go.RowKit

structure BeamAt (w:World) (bf bq:Nat) (v:Value) (width:Int) (l:List Hit):Prop where
  blk:w.heap[bf]? = some (.cells #[.int .i64 width,.pointer (some ⟨bq,0,none⟩)] 233 (0,0))
  q:QAt w bq 150 v l

section
variable {w w':World} {bf bq:Nat} {v:Value} {width:Int} {l:List Hit}
theorem BeamAt.c0 (h:BeamAt w bf bq v width l):w.cell? ⟨bf,0,none⟩ = some (.int .i64 width):=cells_at h.blk 0 rfl
theorem BeamAt.c1 (h:BeamAt w bf bq v width l):w.cell? ⟨bf,1,none⟩ = some (.pointer (some ⟨bq,0,none⟩)):=cells_at h.blk 1 rfl
theorem BeamAt.lt (h:BeamAt w bf bq v width l):bf < w.heap.size:=heap_lt h.blk
theorem BeamAt.ne (h:BeamAt w bf bq v width l):bf ≠ bq:=by
  intro e; subst e
  have:=h.blk.symm.trans h.q.blk
  simp at this
theorem BeamAt.nr (h:BeamAt w bf bq v width l):v.ownBlock ≠ some bf:=by
  intro e
  obtain ⟨cur,hc⟩:=ownsRow_obj h.q.row e
  have:=h.blk.symm.trans hc
  simp at this
theorem BeamAt.below (h:BeamAt w bf bq v width l) (hk:Below w.heap.size w w'):BeamAt w' bf bq v width l:=⟨(hk.block _ h.lt).trans h.blk,h.q.below hk⟩
theorem BeamAt.kept {S:Nat→Prop} (h:BeamAt w bf bq v width l) (hk:Kept S w w') (h0:¬ S bf) (h1:¬ S bq) (h2:∀ g,v.ownBlock = some g→¬ S g):BeamAt w' bf bq v width l :=
  ⟨(hk.block _ h.lt h0).trans h.blk,h.q.kept hk h1 h2⟩
end

def addL (width:Int) (l:List Hit) (h:Hit):List Hit:=if width < ((pushL 150 l h).length:Int) then popL 150 (pushL 150 l h) else pushL 150 l h
theorem addL_length (width:Int) (l:List Hit) (h:Hit):(addL width l h).length≤l.length + 1:=by
  unfold addL
  split
  · rw [popL_length,pushL_length]; omega
  · rw [pushL_length]; omega
def leadsL (width:Int) (l:List Hit) (h:Hit):Bool:=if (l.length:Int) < width then true else !(farB h (nth l 0))

set_option maxHeartbeats 1000000 in
theorem newBeam101 (width:Int) (w:World) :
    Calls Tryz.prog 105 #[.int .i64 width] w fun ev w'=>ev = .returned (.pointer (some ⟨w.heap.size + 1,0,none⟩))∧BeamAt w' (w.heap.size + 1) w.heap.size (.slice none 0 0) width []∧Below w.heap.size w w':=by
  go_enter Tryz.func105,Tryz.ntmps105
  go_wp2
  go_ret
  have hq:QAt (w.alloc (.cells #[.func (.func 150) #[] #[],.slice none 0 0] 230)) w.heap.size 150 (.slice none 0 0) []:=⟨heap_alloc_new _ _,rfl,.inl ⟨rfl,rfl⟩⟩
  refine ⟨rfl,⟨?_,hq.below ((Below.refl _ _).alloc (Nat.le_refl _) _)⟩,((Below.refl _ _).alloc (Nat.le_refl _) _).alloc (by simp) _⟩
  have:=heap_alloc_new (w.alloc (.cells #[.func (.func 150) #[] #[],.slice none 0 0] 230)) (.cells #[.int .i64 width,.pointer (some ⟨w.heap.size,0,none⟩)] 233)
  simpa using this

def BmS (bf bq B:Nat) (width:Int) (h:Hit) (wx:World):Prop :=
  wx.heap[bf]? = some (.cells #[.int .i64 width,.pointer (some ⟨bq,0,none⟩)] 233 (0,0))∧wx.heap[B]? = some (.cells #[.int .i64 h.1,.int .i64 h.2] 63 (0,0))
section
variable {wx wy:World} {bf bq B:Nat} {width:Int} {h:Hit}
theorem BmS.cells (hs:BmS bf bq B width h wx):wx.cell? ⟨bf,0,none⟩ = some (.int .i64 width)∧wx.cell? ⟨bf,1,none⟩ = some (.pointer (some ⟨bq,0,none⟩))∧wx.cell? ⟨B,0,none⟩ = some (.int .i64 h.1)∧wx.cell? ⟨B,1,none⟩ = some (.int .i64 h.2) :=
  ⟨cells_at hs.1 0 rfl,cells_at hs.1 1 rfl,cells_at hs.2 0 rfl,cells_at hs.2 1 rfl⟩
theorem BmS.drew (hs:BmS bf bq B width h wx):BmS bf bq B width h wx.drew:=hs
theorem BmS.kept {S:Nat→Prop} (hs:BmS bf bq B width h wx) (hk:Kept S wx wy) (h1:¬ S bf) (h2:¬ S B):BmS bf bq B width h wy :=
  ⟨(hk.block _ (heap_lt hs.1) h1).trans hs.1,(hk.block _ (heap_lt hs.2) h2).trans hs.2⟩
theorem BmS.below (hs:BmS bf bq B width h wx) (hk:Below wx.heap.size wx wy):BmS bf bq B width h wy :=
  ⟨(hk.block _ (heap_lt hs.1)).trans hs.1,(hk.block _ (heap_lt hs.2)).trans hs.2⟩
end

set_option maxHeartbeats 4000000 in
set_option maxRecDepth 20000 in
theorem add105 (bf bq:Nat) (v:Value) (width:Int) (l:List Hit) (h:Hit) (w:World) (hb:BeamAt w bf bq v width l) (hl:l.length < 1000) :
    Calls Tryz.prog 109 #[.pointer (some ⟨bf,0,none⟩),.agg #[.int .i64 h.1,.int .i64 h.2]] w fun ev w'=>ev = .returned (.tuple #[]) ∧
      ∃ v',BeamAt w' bf bq v' width (addL width l h)∧Kept (fun k=>k = bq ∨ v.ownBlock = some k) w w'∧(v'.ownBlock = v.ownBlock ∨ ∀ g,v'.ownBlock = some g→w.heap.size≤g):=by
  obtain ⟨i,d⟩:=h
  have hb1:=hb.below ((Below.refl _ _).alloc (Nat.le_refl _) (.cells #[.int .i64 i,.int .i64 d] 63))
  have hS:BmS bf bq w.heap.size width (i,d) (w.alloc (.cells #[.int .i64 i,.int .i64 d] 63)):=⟨hb1.blk,heap_alloc_new _ _⟩
  have hne:=hb.ne
  have hnr:=hb.nr
  have hvlt:∀ g,v.ownBlock = some g→g < w.heap.size:=fun g hg=>(hb.q.row.lt g hg).2
  have hbq:=hb.q.lt
  have hw1:Below w.heap.size w (w.alloc (.cells #[.int .i64 i,.int .i64 d] 63)):=(Below.refl _ _).alloc (Nat.le_refl _) _
  have HVB:Hid (v.ownBlock ≠ some w.heap.size):=fun e=>by have:=hvlt _ e; omega
  clear hb
  go_enter Tryz.func109,Tryz.ntmps109
  go_wp2_with fail
  generalize w.alloc (.cells #[.int .i64 i,.int .i64 d] 63) = w1 at hb1 hS hw1 ⊢
  have HB1:=hide hb1
  have HW1:=hide hw1
  have hpsh:=push104 bq 150 (.inr rfl) v l (i,d) w1.drew (hb1.q.below (Below.refl _ _).drew) hl
  have HP:=hide hpsh
  clear hb1 hw1 hpsh
  have HNE:=hide hne
  have HNR:=hide hnr
  have HBQ:=hide hbq
  clear hne hnr hbq
  go_region_held3 (fun wx=>wx.cell? ⟨bf,0,none⟩ = some (.int .i64 width)∧wx.cell? ⟨bf,1,none⟩ = some (.pointer (some ⟨bq,0,none⟩))∧wx.cell? ⟨w.heap.size,0,none⟩ = some (.int .i64 i)∧wx.cell? ⟨w.heap.size,1,none⟩ = some (.int .i64 d))
    ((first | exact hS.drew.cells | exact hS2.out.cells | exact hS2.out.drew.cells))
    (first
      | (go_at_call 108; refine HP.out.mono ?_; rintro e2 w2 ⟨rfl,v2,hq2,hk2,hv2⟩; have hS2:=hide (BmS.kept hS.drew hk2 (fun h=>h.elim HNE.out (fun h=>HNR.out h)) (fun h=>h.elim (fun h=>by have:=HBQ.out; omega) (fun h=>HVB.out h))); have HQ2:=hide hq2; have HK2:=hide hk2; have HV2:=hide hv2; clear hq2 hk2 hv2))
  have hb2:BeamAt w2 bf bq v2 width (pushL 150 l (i,d)):=⟨hS2.out.1,HQ2.out⟩
  have hfresh:v2.ownBlock = v.ownBlock ∨ ∀ g,v2.ownBlock = some g→w.heap.size≤g:=HV2.out.imp id (fun h g e=>Nat.le_trans HW1.out.size (h g e))
  have hkw:Kept (fun k=>k = bq ∨ v.ownBlock = some k) w w2:=(Kept.of_below _ HW1.out).trans ((Kept.refl _ w1).drew.trans HK2.out (fun _ _ h=>h)) (fun _ _ h=>h)
  have hm1:(pushL 150 l (i,d)).length≤1000:=by rw [pushL_length]; omega
  have hm0:0 < (pushL 150 l (i,d)).length:=by rw [pushL_length]; omega
  have HF:=hide hfresh
  have HKW:=hide hkw
  have HA:Hid (addL width l (i,d) = if width < ((pushL 150 l (i,d)).length:Int) then popL 150 (pushL 150 l (i,d)) else pushL 150 l (i,d)):=rfl
  generalize pushL 150 l (i,d) = m at hb2 hm1 hm0 HA
  clear hS2 HQ2 HK2 HV2 HP HB1 HW1 hS hfresh hkw hl
  have c0:=hb2.c0
  have c1:=hb2.c1
  have HB2:=hide hb2
  clear hb2
  have hlen:=fun n=>len106 bq 150 v2 m (w2.drewN n) (HB2.out.q.of_block (by rw [heap_drewN]) (fun _ _=>by rw [heap_drewN]))
  have HLEN:=hide hlen
  clear hlen
  by_cases hgt:width < (m.length:Int)
  · have hd:decide (width < (m.length:Int)) = true:=by simpa using hgt
    go_wp2
    go_quiet ((go_at_call 110; exact Calls.quiet_of_same ((HLEN.out _).mono (fun _ _ h=>⟨h.1,h.2.symm⟩))))
    go_wp2_with (go_at_call 114; refine (pop110 bq 150 (.inr rfl) v2 m _ (HB2.out.q.of_block (by rw [heap_drewN]) (fun _ _=>by rw [heap_drewN])) hm0 hm1).mono ?_; rintro e3 w3 ⟨rfl,v3,hq3,hv3,hk3⟩)
    go_end0
    refine ⟨rfl,v3,⟨?_,?_⟩,?_,?_⟩
    · refine ((hk3.block _ (by rw [heap_drewN]; exact HB2.out.lt) ?_).trans (by rw [heap_drewN])).trans HB2.out.blk
      exact fun h=>h.elim HNE.out (fun h=>HB2.out.nr h)
    · rw [HA.out,if_pos hgt]; exact hq3
    · refine (HKW.out.drewN _).trans hk3 (fun j hj h=>h.imp id (fun e=>?_))
      rcases HF.out with e2 | e2
      · rw [← e2]; exact e
      · exact absurd (e2 j e) (by omega)
    · rw [hv3]; exact HF.out
  · have hd:decide (width < (m.length:Int)) = false:=by simpa using hgt
    go_wp2
    go_quiet ((go_at_call 110; exact Calls.quiet_of_same ((HLEN.out _).mono (fun _ _ h=>⟨h.1,h.2.symm⟩))))
    go_wp2
    go_end0
    refine ⟨rfl,v2,?_,HKW.out.drewN _,HF.out⟩
    rw [HA.out,if_neg (by omega)]
    exact HB2.out.below (below_drewN (Below.refl _ _) _)

set_option maxHeartbeats 4000000 in
set_option maxRecDepth 20000 in
theorem leadsOn107 (bf bq:Nat) (v:Value) (width:Int) (l:List Hit) (h:Hit) (w:World) (hb:BeamAt w bf bq v width l) (h1:0 < width) :
    Calls Tryz.prog 111 #[.pointer (some ⟨bf,0,none⟩),.agg #[.int .i64 h.1,.int .i64 h.2]] w fun ev w'=>ev = .returned (.bool (leadsL width l h))∧Below w.heap.size w w':=by
  obtain ⟨i,d⟩:=h
  have hb1:=hb.below ((Below.refl _ _).alloc (Nat.le_refl _) (.cells #[.int .i64 i,.int .i64 d] 63))
  have hS:BmS bf bq w.heap.size width (i,d) (w.alloc (.cells #[.int .i64 i,.int .i64 d] 63)):=⟨hb1.blk,heap_alloc_new _ _⟩
  have hw1:Below w.heap.size w (w.alloc (.cells #[.int .i64 i,.int .i64 d] 63)):=(Below.refl _ _).alloc (Nat.le_refl _) _
  clear hb
  go_enter Tryz.func111,Tryz.ntmps111
  go_wp2_with fail
  generalize w.alloc (.cells #[.int .i64 i,.int .i64 d] 63) = w1 at hb1 hS hw1 ⊢
  have HW1:=hide hw1
  have hlen:=fun n=>len106 bq 150 v l (w1.drewN n) (hb1.q.below (below_drewN (Below.refl _ _) _))
  have HLEN:=hide hlen
  have HB1:=hide hb1
  clear hb1 hw1 hlen
  obtain ⟨c0,c1,b0,b1⟩:=hS.cells
  by_cases hlt:(l.length:Int) < width
  · have hd:decide ((l.length:Int) < width) = true:=by simpa using hlt
    go_wp2
    go_quiet ((go_at_call 110; exact Calls.quiet_of_same ((HLEN.out _).mono (fun _ _ h=>⟨h.1,h.2.symm⟩))))
    go_wp2
    go_ret
    exact ⟨by simp [leadsL,hlt],below_drewN HW1.out _⟩
  · have hd:decide ((l.length:Int) < width) = false:=by simpa using hlt
    have h0:0 < l.length:=by omega
    have hl1:=len106 bq 150 v l w1.drew (HB1.out.q.below (Below.refl _ _).drew)
    have HL1:=hide hl1
    have ht1:=top108 bq 150 v l w1.drew (HB1.out.q.below (Below.refl _ _).drew) h0
    have HT1:=hide ht1
    clear ht1 hl1 HLEN
    generalize hx:nth l 0 = x at HT1
    have HX:=hide hx
    clear hx
    go_wp2
    go_region_held3 (fun wx=>wx.cell? ⟨bf,0,none⟩ = some (.int .i64 width)∧wx.cell? ⟨bf,1,none⟩ = some (.pointer (some ⟨bq,0,none⟩))∧wx.cell? ⟨w.heap.size,0,none⟩ = some (.int .i64 i)∧wx.cell? ⟨w.heap.size,1,none⟩ = some (.int .i64 d))
      ((first | exact hS.drew.cells | exact hS3.cells | exact hS4.cells))
      (first
        | (go_at_call 110; refine HL1.out.mono ?_; rintro e2 w2 ⟨rfl,rfl⟩)
        | (go_at_call 112; refine HT1.out.mono ?_; rintro e3 w3 ⟨rfl,hb3⟩; have hS3:=BmS.below hS.drew hb3)
        | (go_at_call 150; refine (farther143 (i,d) x _).mono ?_; rintro e4 w4 ⟨rfl,hb4⟩; have hS4:=BmS.below hS3 hb4))
    go_wp2
    go_ret
    refine ⟨by rw [leadsL,if_neg (by omega),HX.out]; rfl,?_⟩
    have hb5:=hb3.trans (hb4.mono hb3.size)
    exact HW1.out.trans ((Below.undrew hb5).mono HW1.out.size)

def drainL:Nat→List Hit→List Hit
  | 0,_=>[]
  | n + 1,l=>drainL n (popL 150 l) ++ [nth l 0]
theorem drainL_length:∀ n l,(drainL n l).length = n
  | 0,_=>rfl
  | n + 1,l=>by simp [drainL,drainL_length n]
end
section
open Go.RowKit

theorem madeHits (n:Nat):(madeCells (Value.cells (.agg #[.int .i64 0,.int .i64 0])) (n * 2)).toList = hcells (List.replicate n (0,0)):=by
  refine List.ext_getElem? fun j=>?_
  rcases Nat.lt_or_ge j (n * 2) with h | h
  · have h1:(hcells (List.replicate n (0,0)))[j]? = some (.int .i64 0):=by
      have hj:j = j / 2 * 2 + j % 2:=by omega
      rw [hj,hcells_get _ _ _ (by simp; omega) (by omega)]
      have:nth (List.replicate n ((0,0):Hit)) (j / 2) = (0,0):=by
        unfold nth
        simp [List.getD_eq_getElem?_getD,List.getElem?_replicate]
        split <;> rfl
      rw [this]
      rcases (show j % 2 = 0 ∨ j % 2 = 1 by omega) with e | e <;> rw [e] <;> rfl
    rw [h1]
    have e2:((madeCells (Value.cells (.agg #[.int .i64 0,.int .i64 0])) (n * 2)).toList)[j]? = (madeCells (Value.cells (.agg #[.int .i64 0,.int .i64 0])) (n * 2))[j]?:=by simp
    rw [e2]
    simp only [madeCells,Value.cells]
    simp [h]
    rcases (show j % 2 = 0 ∨ j % 2 = 1 by omega) with e | e <;> simp [e]
  · rw [List.getElem?_eq_none (by simp [size_madeCells]; omega),List.getElem?_eq_none (by rw [hcells_length]; simp; omega)]

theorem drain_step (n:Nat) (l o:List Hit) (k:Nat) (m:List Hit) (hk:k < o.length) (h:drainL n l = drainL (k + 1) m ++ o.drop (k + 1)) :
    drainL n l = drainL k (popL 150 m) ++ (o.set k (nth m 0)).drop k:=by
  rw [h,drainL,List.append_assoc]
  congr 1
  rw [List.drop_eq_getElem_cons (i:=k) (l:=o.set k (nth m 0)) (by simpa using hk),List.drop_set_of_lt (by omega)]
  simp

set_option maxHeartbeats 4000000 in
set_option maxRecDepth 20000 in
theorem inOrder111 (bf bq:Nat) (v:Value) (width:Int) (l:List Hit) (w:World) (hb:BeamAt w bf bq v width l) (hl:l.length≤1000) :
    Calls Tryz.prog 115 #[.pointer (some ⟨bf,0,none⟩)] w fun ev w'=>ev = .returned (.slice (some ⟨w.heap.size,0,none⟩) l.length l.length)∧HRow w' (.slice (some ⟨w.heap.size,0,none⟩) l.length l.length) (drainL l.length l) ∧
      Kept (fun k=>k = bq ∨ v.ownBlock = some k) w w':=by
  obtain ⟨i0,hi,hz0,hz1,hz2⟩:=info_parts info63
  have hmk:=run_make (P:=Tryz.prog) w 58 63 i0 (.agg #[.int .i64 0,.int .i64 0]) Tryz.underlying58 hi hz0 .i64 .i64 (l.length:Int) (l.length:Int) (by omega) (Int.le_refl _) (by rw [hz2]; omega) (by omega)
  simp only [Int.toNat_natCast,hz1] at hmk
  obtain ⟨M,hM⟩:∃ M:Array Value,M = madeCells (Value.cells (.agg #[.int .i64 0,.int .i64 0])) (l.length * 2):=⟨_,rfl⟩
  rw [← hM] at hmk
  have hrow:HRow (w.alloc (.cells M 63)) (.slice (some ⟨w.heap.size,0,none⟩) l.length l.length) (List.replicate l.length (0,0)):=by
    have e1:(List.replicate l.length ((0,0):Hit)).length = l.length:=by simp
    unfold HRow
    rw [e1]
    refine ⟨by rw [hcells_length,e1],.inr ⟨w.heap.size,l.length,M,rfl,Nat.zero_le _,heap_alloc_new _ _,Nat.le_refl _,by unfold maxLen; omega,by rw [hM,size_madeCells],?_⟩⟩
    rw [← madeHits,← hM,List.take_of_length_le (by rw [hM]; simp [size_madeCells])]
  have hlen:=len106 bq 150 v l w hb.q
  have c1:=hb.c1
  have hb1:=hb.below ((Below.refl _ _).alloc (Nat.le_refl _) (.cells M 63))
  have hw1:Below w.heap.size w (w.alloc (.cells M 63)):=(Below.refl _ _).alloc (Nat.le_refl _) _
  have hlt0:w.heap.size < (w.alloc (.cells M 63)).heap.size:=by simp
  have hvlt:∀ g,v.ownBlock = some g→g < w.heap.size:=fun g hg=>(hb.q.row.lt g hg).2
  have hbq:=hb.q.lt
  have hbf:=hb.lt
  have HNE:=hide hb.ne
  have HNR:=hide hb.nr
  have HLEN:=hide hlen
  have HV:=hide hvlt
  clear hb hM hlen hvlt
  go_enter Tryz.func115,Tryz.ntmps115
  go_wp2_with (go_at_call 110; refine HLEN.out.mono ?_; rintro e2 w2 ⟨rfl,rfl⟩)
  generalize hwe:w.alloc (.cells M 63) = w1 at hb1 hrow hw1 hlt0 ⊢
  have HB1:=hide hb1
  have HR:=hide hrow
  have HW1:=hide hw1
  have HL0:=hide hlt0
  clear hb1 hrow hw1 hlt0 hmk hwe c1
  go_loopw [4] (fun at_ wr=>∃ (k:Nat) (m o:List Hit) (v2:Value),at_ = .int .i64 ((k:Int) - 1)∧k≤l.length∧Hid (m.length = k)∧Hid (o.length = l.length)∧Hid (BeamAt wr bf bq v2 width m)∧Hid (v2.ownBlock = v.ownBlock)∧Hid (HRow wr (.slice (some ⟨w.heap.size,0,none⟩) o.length o.length) o)∧Hid (drainL l.length l = drainL k m ++ o.drop k)∧Hid (Kept (fun k=>k = bq ∨ v.ownBlock = some k ∨ k = w.heap.size) w1 wr)) (fun at_ _=>((intOf at_) + 1).toNat)
  case atStart=>exact ⟨l.length,l,List.replicate l.length (0,0),v,rfl,Nat.le_refl _,rfl,List.length_replicate,HB1.out,rfl,by rw [List.length_replicate]; exact HR.out,(by simp:drainL l.length l = drainL l.length l ++ (List.replicate l.length ((0,0):Hit)).drop l.length),Kept.refl _ _⟩
  case round =>
    obtain ⟨k,m,o,v2,rfl,hkl,HM,HO,HB,HV2,HRW,HD,HK⟩:=hrel
    cases k with
    | zero =>
      go_wp2
      go_ret
      refine ⟨rfl,?_,?_⟩
      · have e1:drainL l.length l = o:=by simpa [drainL] using HD.out
        rw [e1,← HO.out]
        exact HRW.out
      · exact (Kept.of_below _ HW1.out).trans HK.out (fun j hj h=>by
          rcases h with h | h | h
          · exact .inl h
          · exact .inr h
          · omega)
    | succ q =>
      have eq1:(((q + 1:Nat):Int) - 1) = (q:Int):=by omega
      rw [eq1]
      have hq1:q < o.length:=by rw [HO.out]; omega
      have c1:=HB.out.c1
      have hpop:=pop110 bq 150 (.inr rfl) v2 m wr HB.out.q (by rw [HM.out]; omega) (by rw [HM.out]; omega)
      have HPOP:=hide hpop
      generalize hx:nth m 0 = x at HPOP
      have HX:=hide hx
      clear hpop hx eq1
      go_wp2_with (go_at_call 114; refine HPOP.out.mono ?_; rintro e3 w3 ⟨rfl,v3,hq3,hv3,hk3⟩; have hrw3:=ownsRow_kept HRW.out hk3 (fun g e=>by obtain rfl:w.heap.size = g:=by { simpa [Value.ownBlock] using e }; exact fun h=>h.elim (fun h=>by omega) (fun h=>absurd (HV.out _ (by rw [← HV2.out]; exact h)) (Nat.lt_irrefl _))); have x0:=HRow.at0 hrw3 hq1; have x1:=HRow.at1 hrw3 hq1; have hfz:=ownsRow_frozen hrw3; have HRW3:=hide hrw3; have HQ3:=hide hq3; have HV3:=hide hv3; have HK3:=hide hk3; clear hrw3 hq3 hv3 hk3)
      have hne1:bq ≠ w.heap.size:=by omega
      have hne2:bf ≠ w.heap.size:=by omega
      have hb3:w3.heap[bf]? = some (.cells #[.int .i64 width,.pointer (some ⟨bq,0,none⟩)] 233 (0,0)) :=
        (HK3.out.block _ HB.out.lt (fun h=>h.elim HNE.out (fun h=>HB.out.nr h))).trans HB.out.blk
      refine ⟨⟨q,popL 150 m,o.set q x,v3,rfl,by omega,?_,?_,⟨?_,?_⟩,?_,?_,?_,?_⟩,by simp [intOf]⟩
      · show (popL 150 m).length = q
        rw [popL_length,HM.out]; omega
      · show (o.set q x).length = l.length
        rw [List.length_set]; exact HO.out
      · rw [Below.heap_setCell _ _ _ _ hne2,Below.heap_setCell _ _ _ _ hne2]
        exact hb3
      · refine HQ3.out.of_block ?_ (fun g e=>?_)
        · rw [Below.heap_setCell _ _ _ _ hne1,Below.heap_setCell _ _ _ _ hne1]
        · have hg:g ≠ w.heap.size:=by
            have:=HV.out g (by rw [← HV2.out,← HV3.out]; exact e)
            omega
          rw [Below.heap_setCell _ _ _ _ hg,Below.heap_setCell _ _ _ _ hg]
      · exact HV3.out.trans HV2.out
      · show HRow _ _ _
        unfold HRow
        rw [List.length_set]
        exact HRow.set HRW3.out q x
      · show drainL l.length l = _
        rw [← HX.out]
        exact drain_step _ _ _ _ _ hq1 HD.out
      · refine ((HK.out.trans HK3.out (fun j _ h=>?_)).setCell (fun _=>.inr (.inr rfl)) _).setCell (fun _=>.inr (.inr rfl)) _
        rcases h with h | h
        · exact .inl h
        · exact .inr (.inl (by rw [← HV2.out]; exact h))
end
end Go.Proofs.YtpkiefjanmfgfaaGreatDoor
